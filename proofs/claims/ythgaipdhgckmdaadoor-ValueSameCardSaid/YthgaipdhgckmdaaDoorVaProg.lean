/- Values: the program's own contracts, together. -/
import Derived.Test.YthgaipdhgckmdaaDoorVaPTell
import Derived.Test.YthgaipdhgckmdaaDoorVaPWell
import Derived.Test.YthgaipdhgckmdaaDoorVaPSame
import Derived.Test.YthgaipdhgckmdaaDoorVaTextW
import Derived.Test.YthgaipdhgckmdaaDoorVaWell
import Derived.Test.YthgaipdhgckmdaaDoorVaBad
