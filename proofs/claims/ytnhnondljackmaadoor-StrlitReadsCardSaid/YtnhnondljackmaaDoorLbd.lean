/- The law StrlitReads, with the facts of its world. -/
import Derived.Test.YtnhnondljackmaaDoorLawd
import Derived.Test.YtnhnondljackmaaDoorLfac
