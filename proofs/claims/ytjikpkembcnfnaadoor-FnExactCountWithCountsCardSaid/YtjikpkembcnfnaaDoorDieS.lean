/- The text lies in DieSB. -/
import Derived.Test.YtjikpkembcnfnaaDoorDieSB
