import Derived.Test.YtncpjgpioajbeaaGreatDoorQAlloc
/- A drawn region in which one operation, which takes a part out of a tuple, may come up behind a store that does not ask for it: it may be taken as if the store waited for it. -/
namespace Go.Proofs.YtncpjgpioajbeaaGreatDoor
open Go.RowKit Go.Sort

section
variable {P : Program} {Q : Exit → Act → World → Prop} {md : Region.Mode}

section
variable {l : List Oper} {n q : Nat} {oq : Oper}

end

end
end Go.Proofs.YtncpjgpioajbeaaGreatDoor
