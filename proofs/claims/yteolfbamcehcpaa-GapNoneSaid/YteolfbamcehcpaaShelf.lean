import Derived.Test.YteolfbamcehcpaaProg
import Derived.WalkKit
