import Derived.Test.YtdkfpakghpbofaaMulNum
/- The numbers modulo 2^256 are a ring. -/
namespace Go.Proofs.Ytdkfpakghpbofaa

end Go.Proofs.Ytdkfpakghpbofaa
