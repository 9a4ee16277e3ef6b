/- An ace read of bytes by the program: readAceBytes. -/
import Derived.Test.YtddkmlkfphmdoabIRa0
import Derived.Test.YtddkmlkfphmdoabIRa1
import Derived.Test.YtddkmlkfphmdoabIRa2
import Derived.Test.YtddkmlkfphmdoabIRa3
namespace Go.Proofs.Ytddkmlkfphmdoab
open Go.RowKit Go.PlainAid Go.Deep
set_option linter.unusedVariables false
/-- impl.readAceBytes. -/
theorem iReadAB_any (s : ByteArray) (hs : s.size ≤ 8000) (p0 : Nat) (q0 : p0 ≤ 8000) (w : World) :
    Calls Try.prog 27 #[.string s, .int .i64 (p0 : Int)] w (AceB s p0 w) := by
  cases e0 : rd1 s p0 with
  | none => exact iReadA_no0 s hs p0 q0 e0 w
  | some r0 =>
    obtain ⟨n0, p1⟩ := r0
    cases e1 : rd1 s p1 with
    | none => exact iReadA_no1 s hs p0 q0 n0 p1 e0 e1 w
    | some r1 =>
      obtain ⟨n1, p2⟩ := r1
      cases e2 : rd1 s p2 with
      | none => exact iReadA_no2 s hs p0 q0 n0 n1 p1 p2 e0 e1 e2 w
      | some r2 =>
        obtain ⟨n2, p3⟩ := r2
        cases e3 : rd1 s p3 with
        | none => exact iReadA_no3 s hs p0 q0 n0 n1 n2 p1 p2 p3 e0 e1 e2 e3 w
        | some r3 =>
          obtain ⟨n3, p4⟩ := r3
          cases e4 : rd1 s p4 with
          | none => exact iReadA_no4 s hs p0 q0 n0 n1 n2 n3 p1 p2 p3 p4 e0 e1 e2 e3 e4 w
          | some r4 =>
            obtain ⟨n4, p5⟩ := r4
            by_cases h0 : n0 = 0
            · subst h0
              exact iReadA_zero s hs p0 q0 n1 n2 n3 n4 p1 p2 p3 p4 p5 e0 e1 e2 e3 e4 w
            · by_cases h1 : n0 = 1
              · subst h1
                exact iReadA_one s hs p0 q0 n1 n2 n3 n4 p1 p2 p3 p4 p5 e0 e1 e2 e3 e4 w
              · exact iReadA_ill s hs p0 q0 n0 n1 n2 n3 n4 p1 p2 p3 p4 p5 e0 e1 e2 e3 e4 h0 h1 w
end Go.Proofs.Ytddkmlkfphmdoab
