import Derived.Test.YtlmlhiookoediaaMulNum
/- The numbers modulo 2^256 are a ring. -/
namespace Go.Proofs.Ytlmlhiookoediaa

end Go.Proofs.Ytlmlhiookoediaa
