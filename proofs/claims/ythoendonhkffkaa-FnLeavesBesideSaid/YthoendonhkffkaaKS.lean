/- The contracts of chapter 10's functions of the program: U21 -/
import Derived.Test.YthoendonhkffkaaU21

