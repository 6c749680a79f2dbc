/- What the walks ask of the world, out of its shape. -/
import Derived.Test.YthknlllaclgekaaGh
import Derived.Shelf.Vars
namespace Go.Proofs.Ythknlllaclgekaa.glo
open Go.RowKit Go.Shelf

theorem mx_of {W : World} {P : Prop} (_ : P) (hS : W.ShapedOpen Try.prog) : MX W :=
  cell_of_shapedOpen_int (g := 0) (zero := #[.int .i64 0]) (t := 3) hS (of_decide_eq_true (by kernel_rfl)) (by kernel_rfl) rfl (by kernel_rfl) (by kernel_rfl) Try.underlying3

end Go.Proofs.Ythknlllaclgekaa.glo
