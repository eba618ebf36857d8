/- What the laws of digest share. -/
import Derived.Test.YtpikhfgpdebomaaDoorDgZ
import Derived.Test.YtpikhfgpdebomaaDoorDgBa
