/- A block of cells that is known whole: see BlkB (no condition). -/
import Derived.Test.YtmbabbapcjphgaaRecW
import Derived.Test.YtmbabbapcjphgaaBlkB
