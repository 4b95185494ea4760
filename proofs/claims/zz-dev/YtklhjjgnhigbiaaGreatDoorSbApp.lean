/-
  Out of the way.
-/
import Derived.Test.YtklhjjgnhigbiaaGreatDoorLsMem

