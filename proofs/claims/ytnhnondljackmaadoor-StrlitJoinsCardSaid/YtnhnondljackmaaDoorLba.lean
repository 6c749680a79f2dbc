/- The laws StrlitBack and StrlitJoins, with the facts of their worlds. -/
import Derived.Test.YtnhnondljackmaaDoorLawa
import Derived.Test.YtnhnondljackmaaDoorLfac
