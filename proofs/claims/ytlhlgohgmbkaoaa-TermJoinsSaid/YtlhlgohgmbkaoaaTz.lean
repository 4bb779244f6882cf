/- The developers' package term is as the laws want it. Stage 10. -/
import Derived.Test.YtlhlgohgmbkaoaaOg
namespace Go.Proofs.Ytlhlgohgmbkaoaa
theorem termC : TermC := ⟨right_calls, low_calls, up_calls, deep_calls, groups_calls, top_calls⟩
end Go.Proofs.Ytlhlgohgmbkaoaa
