/- The contracts of chapter 12's functions of the program, first half: where they lie. -/
import Derived.Test.YtpbmehodcllncaaK36
import Derived.Test.YtpbmehodcllncaaK32
import Derived.Test.YtpbmehodcllncaaLV
import Derived.Test.YtpbmehodcllncaaU31

