import Derived.StillTail
import Derived.BigQuiet
import Derived.Below
namespace Go.Proofs.Ytahekhamhdfkdaa

section
variable {P : Program} {ops : Array Oper} {w0 : World}

end

end Go.Proofs.Ytahekhamhdfkdaa
