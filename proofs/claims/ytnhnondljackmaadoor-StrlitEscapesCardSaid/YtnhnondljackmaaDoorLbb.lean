/- The laws StrlitPrints and StrlitEscapes, with the facts of their worlds. -/
import Derived.Test.YtnhnondljackmaaDoorLawb
import Derived.Test.YtnhnondljackmaaDoorLfac
