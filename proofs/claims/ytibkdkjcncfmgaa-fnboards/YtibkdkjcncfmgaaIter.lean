/- Contracts of the library at this program, laid by the kit (no walk): maps.Keys, slices.Sorted, slices.Sort. -/
import Derived.Shelf.Lay
import Derived.Shelf.LaySoft
import Derived.Shelf.SlIterI.Nil
import Derived.Shelf.SortM.Plain
import Derived.Shelf.SortM.SortNone
import Derived.Ground.GgzProg
import Derived.Ground.SlgmProg
import Derived.Test.YtibkdkjcncfmgaaProg
namespace Go.Proofs
open Go.Shelf
shelf_try shelf_lay_g SlLaysZI.n7 Ggz 7 at Try 122 as Try.keysA
shelf_try shelf_lay_g SlLaysZI.n6 Ggz 6 at Try 121 as Try.sortedA
shelf_try shelf_lay_g SlLaysM.n5 Slgm 5 at Try 160 as Try.sortA
shelf_tried
end Go.Proofs
