/-
  Numbers that an int64 holds. It speaks of no program.
-/
namespace Go.Proofs.YtlikokeknfhejaaGreatDoor
/-- A number that an int64 holds. -/
def InR (n : Int) : Prop := -9223372036854775808 ≤ n ∧ n ≤ 9223372036854775807
end Go.Proofs.YtlikokeknfhejaaGreatDoor
