/- The library's modules that the texts of this seat read. -/
import Derived.Lib.BitFns
import Derived.Lib.ItoaNum
import Derived.Lib.Builder
import Derived.Lib.Strings
import Derived.Lib.TrimByte
import Derived.Shelf.Small.Bits
import Derived.Shelf.Small.Strs
import Derived.Lib.Repeat
