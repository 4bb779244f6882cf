/- Texts put together: Lz. -/
import Derived.Test.YtpncomjpmilbkaaDoorPAl
import Derived.Test.YtpncomjpmilbkaaDoorPAk
import Derived.Test.YtpncomjpmilbkaaDoorPAg
/- termD: term's Right and Top, the document's Right: what LowerTerm wants of them. -/
namespace Go.Proofs.YtpncomjpmilbkaaDoor
theorem termD : TermD := ⟨tmright_calls, tRight_calls, top_calls⟩
end Go.Proofs.YtpncomjpmilbkaaDoor
