/- The contracts of chapter 8's functions of the program: U15 -/
import Derived.Test.YtmimcgjobgfgfaaU14
import Derived.Test.YtmimcgjobgfgfaaK17
import Derived.Test.YtmimcgjobgfgfaaKL
import Derived.Test.YtmimcgjobgfgfaaM22

