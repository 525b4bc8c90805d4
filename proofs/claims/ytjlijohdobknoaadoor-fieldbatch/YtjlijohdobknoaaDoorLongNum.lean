import Derived.Test.YtjlijohdobknoaaDoorNum
/- Long division, limb by limb: the numbers of lists of limbs. -/
namespace Go.Proofs.YtjlijohdobknoaaDoor

end Go.Proofs.YtjlijohdobknoaaDoor
