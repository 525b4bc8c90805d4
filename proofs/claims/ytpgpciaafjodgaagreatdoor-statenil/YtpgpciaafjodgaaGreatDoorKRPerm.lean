import Derived.Test.YtpgpciaafjodgaaGreatDoorKSpec
import Derived.Test.YtpgpciaafjodgaaGreatDoorKPerm
import Derived.Test.YtpgpciaafjodgaaGreatDoorTail
namespace Go.Proofs.YtpgpciaafjodgaaGreatDoor
open Go.RowKit Go.Sort

theorem lanes_size {L : List (BitVec 64)} (h : L.length = 25) : ((lanes L).toArray).size = 25 := by simp [lanes_len, h]

end Go.Proofs.YtpgpciaafjodgaaGreatDoor
