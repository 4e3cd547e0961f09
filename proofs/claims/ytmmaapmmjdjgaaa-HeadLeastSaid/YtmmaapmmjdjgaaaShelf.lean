/- The library's contracts that this program wants. -/
import Derived.Lib.BitFns
import Derived.Lib.ItoaNum
import Derived.Lib.Builder
import Derived.Lib.Repeat
import Derived.Lib.Strings
import Derived.Lib.TrimByte
import Derived.Shelf.Small.Bits
import Derived.Shelf.Small.Strs
import Derived.Shelf.Strconv.Itoa0
import Derived.Test.YtmmaapmmjdjgaaaProg
