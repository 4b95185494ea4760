/-
  What the states' law reaches.
-/
import Derived.Test.YtklhjjgnhigbiaaGreatDoorMtEnds
import Derived.Test.YtklhjjgnhigbiaaGreatDoorFlBuild
import Derived.Test.YtklhjjgnhigbiaaGreatDoorSbBuild
import Derived.Test.YtklhjjgnhigbiaaGreatDoorGG
import Derived.Test.YtklhjjgnhigbiaaGreatDoorSbStates
import Derived.Test.YtklhjjgnhigbiaaGreatDoorSbTell
import Derived.Test.YtklhjjgnhigbiaaGreatDoorLsLst
import Derived.Test.YtklhjjgnhigbiaaGreatDoorLsDfa
import Derived.Test.YtklhjjgnhigbiaaGreatDoorPkLd

