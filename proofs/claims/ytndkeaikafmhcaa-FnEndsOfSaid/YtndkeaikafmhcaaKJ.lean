/- Chapter 4's functions of the program: OrderOk (U1), EndsOf (U2), ChangesOf (U3), BusyOk (U4), OrderBy (U7). -/
import Derived.Test.YtndkeaikafmhcaaK9
import Derived.Test.YtndkeaikafmhcaaV1
import Derived.Test.YtndkeaikafmhcaaR2
import Derived.Test.YtndkeaikafmhcaaU2
import Derived.Test.YtndkeaikafmhcaaU3
import Derived.Test.YtndkeaikafmhcaaU4
import Derived.Test.YtndkeaikafmhcaaU7

