/- The sizes of windows. -/
import Derived.Test.YtiombjkjoehjpaaMemA
namespace Go.Proofs.Ytiombjkjoehjpaa
theorem Try.infoWn_conf : (Try.prog.info? 71).map (fun i => (i.zero, i.size, i.bytes)) = some (some (.agg #[.int .i64 0, .int .i64 0, .int .i64 0]), 3, 24) := by kernel_rfl
theorem Try.infoWn_parcloseref03 : (Try.prog.info? 72).map (fun i => (i.zero, i.size, i.bytes)) = some (some (.agg #[.int .i64 0, .int .i64 0, .int .i64 0]), 3, 24) := by kernel_rfl
end Go.Proofs.Ytiombjkjoehjpaa
