/- Chapter 5: what the program's functions on paths return. -/
import Derived.Test.YtcpfdhammhcoaaaC05S
import Derived.Lib.Join
import Derived.Lib.SliceRun
namespace Go.Proofs.Ytcpfdhammhcoaaa.C05I
open Go.RowKit Mem MemS M02 M04 M05 C01 C02 C04S C04I C05S
set_option linter.unusedVariables false
set_option maxRecDepth 100000
end Go.Proofs.Ytcpfdhammhcoaaa.C05I
