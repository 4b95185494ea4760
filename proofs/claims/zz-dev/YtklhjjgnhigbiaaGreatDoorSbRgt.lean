/-
  subset.Right, where stage 12's texts are at hand.
-/
import Derived.Test.YtklhjjgnhigbiaaGreatDoorLsMem

