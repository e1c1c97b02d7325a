/- A text builder's contracts at this program's numbers. -/
import Derived.Shelf.Strings.BuilderK
import Derived.Test.YtcihmcgiokcibaaSentMem
namespace Go.Proofs.Ytcihmcgiokcibaa
open Go.RowKit Go.Joins Go.Shelf
set_option linter.unusedVariables false

def renS : Go.Shelf.Ren := ⟨fun | 166 => 13 | 169 => 14 | 240 => 17 | 276 => 18 | n => n,
  fun | 0 => 0 | 3 => 3 | 4 => 4 | 5 => 5 | 9 => 9 | 20 => 20 | 37 => 38 | 70 => 37 | 72 => 40 | 75 => 42 | 80 => 45 | 127 => 48 | 164 => 49 | n => n, fun | n => n⟩
theorem bldW : Go.Proofs.Lays.n166 Try.prog renS := {
  mixed := by kernel_rfl
  f166 := Try.func13.trans (congrArg some (by kernel_rfl))
  f240 := Try.func17.trans (congrArg some (by kernel_rfl))
  f276 := Try.func18.trans (congrArg some (by kernel_rfl))
  t0 := Try.underlying0
  a0 := Try.isAgg0
  z0 := Try.sizeOf0
  v0 := Try.zeroValue0
  t3 := Try.underlying3
  a3 := Try.isAgg3
  z3 := Try.sizeOf3
  v3 := Try.zeroValue3
  t4 := Try.underlying4
  a4 := Try.isAgg4
  z4 := Try.sizeOf4
  v4 := Try.zeroValue4
  t9 := Try.underlying9
  a9 := Try.isAgg9
  z9 := Try.sizeOf9
  v9 := Try.zeroValue9
  t20 := Try.underlying20
  a20 := Try.isAgg20
  z20 := Try.sizeOf20
  v20 := Try.zeroValue20
  t37 := Try.underlying38
  a37 := Try.isAgg38
  z37 := Try.sizeOf38
  v37 := Try.zeroValue38
  t70 := Try.underlying37
  a70 := Try.isAgg37
  z70 := Try.sizeOf37
  v70 := Try.zeroValue37
  t72 := Try.underlying40
  a72 := Try.isAgg40
  z72 := Try.sizeOf40
  v72 := Try.zeroValue40
  t75 := Try.underlying42
  a75 := Try.isAgg42
  z75 := Try.sizeOf42
  v75 := Try.zeroValue42
  t164 := Try.underlying49
  a164 := Try.isAgg49
  z164 := Try.sizeOf49
  v164 := Try.zeroValue49 }
theorem bldS : Go.Proofs.Lays.n169 Try.prog renS := {
  mixed := by kernel_rfl
  f169 := Try.func14.trans (congrArg some (by kernel_rfl))
  t0 := Try.underlying0
  a0 := Try.isAgg0
  z0 := Try.sizeOf0
  v0 := Try.zeroValue0
  t3 := Try.underlying3
  a3 := Try.isAgg3
  z3 := Try.sizeOf3
  v3 := Try.zeroValue3
  t9 := Try.underlying9
  a9 := Try.isAgg9
  z9 := Try.sizeOf9
  v9 := Try.zeroValue9
  t37 := Try.underlying38
  a37 := Try.isAgg38
  z37 := Try.sizeOf38
  v37 := Try.zeroValue38
  t70 := Try.underlying37
  a70 := Try.isAgg37
  z70 := Try.sizeOf37
  v70 := Try.zeroValue37
  t72 := Try.underlying40
  a72 := Try.isAgg40
  z72 := Try.sizeOf40
  v72 := Try.zeroValue40
  t127 := Try.underlying48
  a127 := Try.isAgg48
  z127 := Try.sizeOf48
  v127 := Try.zeroValue48 }
theorem bldX : Builder.Extra Try.prog renS := {
  sizeBuilder := by kernel_rfl
  liesBuilder := by kernel_rfl
  t5 := Try.underlying5
  a5 := Try.isAgg5
  z5 := Try.sizeOf5
  v5 := Try.zeroValue5
  infoByte := by kernel_rfl
  cellsByte := by kernel_rfl
  sizeByte := by kernel_rfl
  neB5 := by decide }

/-- a text builder of one's own, and what it holds -/
def BldC (B b : Nat) (t : ByteArray) (w : World) : Prop := Lib.IsBuilderF 40 5 B b (Lib.byteCells t.data.toList) w
theorem BldC.new {w : World} {b : Nat} (h : w.heap[b]? = some (.cells #[.pointer none, .slice none 0 0] 40 (0, 0))) : BldC b b ⟨#[]⟩ w :=
  .inl ⟨Nat.le_refl _, _, h, World.ownsRowF_of (World.ownsRow_nil _ _ _ _), fun e => by cases e⟩
theorem BldC.alloc {w : World} {B b : Nat} {t : ByteArray} (h : BldC B b t w) (o : Obj) : BldC B b t (w.alloc o) := by
  rcases h with h | h
  · exact .inl (h.alloc o)
  · exact .inr (h.alloc o)
theorem BldC.lt {w : World} {B b : Nat} {t : ByteArray} (h : BldC B b t w) : b < w.heap.size := by
  rcases h with ⟨_, v, h, _⟩ | ⟨_, v, h, _⟩
  · exact (Array.getElem?_eq_some_iff.1 h).1
  · exact (Array.getElem?_eq_some_iff.1 h).1
theorem BldC.later {w w' : World} {B b : Nat} {t : ByteArray} (h : BldC B b t w) (hb : Below w.heap.size w w') : BldC B b t w' := by
  have h2 : ∀ (p : Value), Lib.BuilderAtF 40 5 B b p (Lib.byteCells t.data.toList) w → Lib.BuilderAtF 40 5 B b p (Lib.byteCells t.data.toList) w' := by
    rintro p ⟨h1, v, h2, h3, h4⟩
    refine ⟨h1, v, by rw [hb.block b (Array.getElem?_eq_some_iff.1 h2).1]; exact h2, ⟨h3.1, ?_⟩, h4⟩
    rcases h3.2 with h | ⟨g, cap, cur, fz, e, hg, hgg, r⟩
    · exact .inl h
    · exact .inr ⟨g, cap, cur, fz, e, hg, by rw [hb.block g (Array.getElem?_eq_some_iff.1 hgg).1]; exact hgg, r⟩
  rcases h with h | h
  · exact .inl (h2 _ h)
  · exact .inr (h2 _ h)
theorem writeB_any (B b : Nat) (t s : ByteArray) (w : World) (h : BldC B b t w) (hlen : t.size + s.size ≤ 4000000) (hBw : B ≤ w.heap.size) :
    Calls Try.prog 13 #[.pointer (some ⟨b, 0, none⟩), .string s] w fun e w' => e = .returned (.tuple #[.int .i64 s.size, .nilIface]) ∧ BldC B b (t ++ s) w' ∧ Below B w w' := by
  have hl : (Lib.byteCells t.data.toList).length + s.size ≤ 140737488355328 := by
    have : (Lib.byteCells t.data.toList).length = t.size := by rw [Lib.byteCells_length, Array.length_toList]; rfl
    rw [this]
    omega
  refine (Any.Builder_WriteString_k (ρ := renS) bldW bldX B b _ s w h hl hBw).mono ?_
  rintro e w' ⟨rfl, hb, hbl, hk⟩
  refine ⟨rfl, .inr ?_, hbl⟩
  have e : Lib.byteCells (t ++ s).data.toList = Lib.byteCells t.data.toList ++ Lib.strCells s := by
    unfold Lib.byteCells Lib.strCells
    rw [← List.map_append, ByteArray.data_append, Array.toList_append]
  rw [e]
  exact hb
theorem stringB_any (B b : Nat) (t : ByteArray) (w : World) (h : BldC B b t w) (hBw : B ≤ w.heap.size) :
    Calls Try.prog 14 #[.pointer (some ⟨b, 0, none⟩)] w fun e w' => e = .returned (.string t) ∧ Below B w w' := by
  refine (Any.Builder_String_any_k (ρ := renS) bldS bldX B b _ w h hBw).mono ?_
  rintro e w' ⟨rfl, hb, hbl, hk⟩
  exact ⟨rfl, hbl⟩
end Go.Proofs.Ytcihmcgiokcibaa
