/- The contracts of chapter 8's functions of the program: U15 -/
import Derived.Test.YtmimcgjobgfgfaaU15
import Derived.Test.YtmimcgjobgfgfaaK18
import Derived.Test.YtmimcgjobgfgfaaKL
import Derived.Test.YtmimcgjobgfgfaaM24

