/-
  (In the place of stage 12's text of this name: what the walks of the document's Few, Right and Run lean on.)
-/
import Derived.Test.YtleafbbcgebmpaaDoorLsMem

