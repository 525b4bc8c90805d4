import Derived.StillTail
import Derived.BigQuiet
import Derived.Below
namespace Go.Proofs.Ytongiohdomacoaa

section
variable {P : Program} {ops : Array Oper} {w0 : World}

end

end Go.Proofs.Ytongiohdomacoaa
