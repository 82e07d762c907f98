import Derived.Test.YtfmcgdjjcdlmeaaProg
import Derived.WalkKit
namespace Go.Proofs.Ytfmcgdjjcdlmeaa
end Go.Proofs.Ytfmcgdjjcdlmeaa
