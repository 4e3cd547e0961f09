/- The library's texts that this program's library functions want. -/
import Derived.Test.YtlmabhpfmbebjaaDoorProg
import Derived.Lib.BitFns
import Derived.Lib.ItoaNum
import Derived.Lib.Builder
import Derived.Lib.Strings
import Derived.Lib.TrimByte
import Derived.Shelf.Small.Bits
import Derived.Shelf.Small.Strs
