/- What the functions of package roots do, called at any whole numbers: plain, squarePlain, sought at whole numbers, Root. -/
import Derived.Test.YthfgeopldbcniabRootM
import Derived.Test.YthfgeopldbcniabWideA
import Derived.Test.YthfgeopldbcniabBoxS
import Derived.Deep.LoopGhost
import Derived.Deep.Light
import Derived.Laws.BitsAllLaws
namespace Go.Proofs.Ythfgeopldbcniab
open Go.RowKit Go.BigFrame
set_option linter.unusedSimpArgs false
set_option linter.unusedVariables false
@[go_sem] theorem store_fn {P : Program} (w : World) (a : Addr) (m : Mode) (fn : Fn) (x y : Array Value) : (store a (.func fn x y) m).run P w = stored P w a (.func fn x y) m := run_store P w a _ m rfl
end Go.Proofs.Ythfgeopldbcniab
