/- The helpers of the exact laws on values, truths of values, and the laws on ValueOK, Truth. -/
import Derived.Test.YthfoabcmgiiadaaGreatDoorValueWalk
namespace Go.Proofs.YthfoabcmgiiadaaGreatDoor
open Go.RowKit

/-- a value as the machine holds it -/
abbrev valV (k n : Int) (t : ByteArray) : Value := .agg #[.int .i64 k, .int .i64 n, .string t]






end Go.Proofs.YthfoabcmgiiadaaGreatDoor
