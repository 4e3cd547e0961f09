/- The imports that a shelf of library contracts would bring. -/
import Derived.Test.YtfjdkpdljippnaaDoorProg
import Derived.Lib.BitFns
import Derived.Lib.ItoaNum
import Derived.Lib.Builder
import Derived.Lib.Strings
import Derived.Lib.TrimByte
import Derived.Shelf.Small.Bits
import Derived.Shelf.Small.Strs
