/- Chapter 7's functions of the program as landed: their contracts lie in U11, U12, U13. -/
import Derived.Test.YtckebkaaokfonaaK16
import Derived.Test.YtckebkaaokfonaaU13

