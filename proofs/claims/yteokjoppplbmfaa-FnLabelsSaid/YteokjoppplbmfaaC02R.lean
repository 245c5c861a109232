/- Chapter 2: what the code's and the model's functions on byte strings return: reading a varint. -/
import Derived.Test.YteokjoppplbmfaaC02
namespace Go.Proofs.Yteokjoppplbmfaa.C02R
open Go.RowKit Mem M02 C01 C02
set_option linter.unusedVariables false
end Go.Proofs.Yteokjoppplbmfaa.C02R
