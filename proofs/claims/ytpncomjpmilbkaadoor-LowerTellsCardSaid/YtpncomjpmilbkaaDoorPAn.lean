/- Texts put together: Ly. -/
import Derived.Test.YtpncomjpmilbkaaDoorPAj
/- lowC: the developers' lower: what the laws of stage 11 want of it. -/
namespace Go.Proofs.YtpncomjpmilbkaaDoor
theorem lowC : LowC := ⟨lNull_calls, lSize_calls, lLower_calls⟩
end Go.Proofs.YtpncomjpmilbkaaDoor
