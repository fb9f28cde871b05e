/- The sizes of windows. -/
import Derived.Test.YtiojmekoemlmkaaMemA
namespace Go.Proofs.Ytiojmekoemlmkaa
theorem Try.infoWn_conf : (Try.prog.info? 62).map (fun i => (i.zero, i.size, i.bytes)) = some (some (.agg #[.int .i64 0, .int .i64 0, .int .i64 0]), 3, 24) := by kernel_rfl
theorem Try.infoWn_parcloseref03 : (Try.prog.info? 69).map (fun i => (i.zero, i.size, i.bytes)) = some (some (.agg #[.int .i64 0, .int .i64 0, .int .i64 0]), 3, 24) := by kernel_rfl
end Go.Proofs.Ytiojmekoemlmkaa
