/- nothing of the shelf is reached here -/
import Derived.Shelf.SlIterI.Nil
import Derived.Test.YtjekggpddpblmaaProg
