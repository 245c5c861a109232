/- Chapter 2: what the code's and the model's functions on byte strings return: reading a varint. -/
import Derived.Test.YtcpfdhammhcoaaaC02
namespace Go.Proofs.Ytcpfdhammhcoaaa.C02R
open Go.RowKit Mem M02 C01 C02
set_option linter.unusedVariables false
end Go.Proofs.Ytcpfdhammhcoaaa.C02R
