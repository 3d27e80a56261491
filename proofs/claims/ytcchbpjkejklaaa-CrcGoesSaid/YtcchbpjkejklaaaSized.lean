/- The reach of the form: how long a string may be that comes in. -/
import Derived.SizedLaws
namespace Go.Proofs.Ytcchbpjkejklaaa
theorem size_of_sized {s : ByteArray} (h : s.data.toList.length ≤ reachBytes) : s.size < 140737488355328 := by
  have h2 := reachBytes_lt
  have h3 : s.data.toList.length = s.size := by simp
  omega
end Go.Proofs.Ytcchbpjkejklaaa
