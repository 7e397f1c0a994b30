/- Parts of the document's package. -/
import Derived.Test.YthadagpfmacemaaLConf
namespace Go.Proofs.Ythadagpfmacemaa
open Go.RowKit
theorem ptypeR : PType 22 65 := ⟨Try.underlying22, by kernel_rfl⟩
end Go.Proofs.Ythadagpfmacemaa
