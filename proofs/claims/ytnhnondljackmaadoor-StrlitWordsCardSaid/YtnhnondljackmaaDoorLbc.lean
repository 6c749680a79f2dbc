/- The law StrlitWords, with the facts of its world. -/
import Derived.Test.YtnhnondljackmaaDoorLawc
import Derived.Test.YtnhnondljackmaaDoorLfac
