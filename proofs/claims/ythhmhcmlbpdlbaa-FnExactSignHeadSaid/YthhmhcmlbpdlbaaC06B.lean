/- Chapter 6: a set of keys read into an array with a count; how many of its keys are held. -/
import Derived.Test.YthhmhcmlbpdlbaaC06A
namespace Go.Proofs.Ythhmhcmlbpdlbaa.C06B
open Go.RowKit Mem MemS Rep R06 M03 M06 C01 C03S C03D C03H C06S C06A
set_option linter.unusedVariables false
set_option maxRecDepth 100000
end Go.Proofs.Ythhmhcmlbpdlbaa.C06B
