/- Plain arithmetic modulo 10007, with no program in sight: powers by squaring are powers; at each Element Fermat's and Euler's words hold (the kernel reckons all 10007). -/
set_option maxRecDepth 100000
set_option maxHeartbeats 32000000
set_option linter.unusedVariables false
namespace Go.Proofs.YtgbnkkjjgodilaaGreatDoor.Pl
end Go.Proofs.YtgbnkkjjgodilaaGreatDoor.Pl
