/-
  WHAT THE LIBRARY'S VARIABLES HOLD, out of the laid world and its shape; a text that comes in.
-/
import Derived.Test.YtdbidlnkaplekaaDoorPi
import Derived.Test.YtdbidlnkaplekaaDoorFrameS
import Derived.ChangeMaps5
import Derived.Stop.LaidErr
import Derived.Shelf.Vars
import Derived.LaidLaws
namespace Go.Proofs.YtdbidlnkaplekaaDoor
open Go.RowKit Go.ChangeShapes Go.WideShapes Go.ChangeAt
open Go.ChangeMaps (open_string)
set_option maxRecDepth 100000
theorem gSy : Tryd.prog.globalNamed "strconv.ErrSyntax" = some 2 := by kernel_rfl
theorem gRg : Tryd.prog.globalNamed "strconv.ErrRange" = some 3 := by kernel_rfl
theorem gSyT : (Tryd.prog.globals[2]?).map (·.type) = some 47 := by kernel_rfl
theorem gRgT : (Tryd.prog.globals[3]?).map (·.type) = some 47 := by kernel_rfl
theorem errStar : "*" ++ "errors.errorString" = "*errors.errorString" := by decide
theorem errRow (u : TypeId) (h : Tryd.prog.typeName? 3 u = some "*errors.errorString") : u = 112 :=
  typeName_ptr_named (nm := "errors.errorString") (by rw [errStar]; kernel_rfl) (by kernel_rfl) (by decide) u (by rw [errStar]; exact h)
theorem cellsES : Tryd.prog.cellsOf 114 = 1 := by kernel_rfl
theorem cellsStr : Tryd.prog.cellsOf 9 = 1 := by kernel_rfl
theorem libW_of {W : World} {r1 r2 : List (String × DataW Unit)} (hsh : W.ShapedOpen Tryd.prog) (hT : TabP W)
    (hR : laidMet Tryd.prog (("strconv.ErrRange", Rows.laid_strconv_ErrRange) :: r1) W) (hS : laidMet Tryd.prog (("strconv.ErrSyntax", Rows.laid_strconv_ErrSyntax) :: r2) W) : LibW W := by
  obtain ⟨m, hm⟩ := cell_of_shapedOpen_int (P := Tryd.prog) (g := 1) (t := 3) (zero := #[.int .i64 0]) hsh (of_decide_eq_true (by kernel_rfl)) (by kernel_rfl) rfl (by kernel_rfl) (by kernel_rfl) Tryd.underlying3
  obtain ⟨a0, s0, hv0, _⟩ := laid_sentinel hR gRg gRgT Tryd.underlying47 errRow Tryd.underlying112 Tryd.underlying114 rfl rfl Tryd.underlying9 cellsES cellsStr
  obtain ⟨a1, s1, hv1, _⟩ := laid_sentinel hS gSy gSyT Tryd.underlying47 errRow Tryd.underlying112 Tryd.underlying114 rfl rfl Tryd.underlying9 cellsES cellsStr
  refine ⟨⟨m, hm⟩, ⟨_, World.var?_cell gSy hv1 0 |>.trans rfl, .inr ⟨_, _, rfl⟩⟩, ⟨_, World.var?_cell gRg hv0 0 |>.trans rfl, .inr ⟨_, _, rfl⟩⟩, hT⟩
section
variable {H : Type} {enc : TypeId × Value → H}
theorem open_str {W : World} {base : Nat} {v : Value} {d : DataW H} {p : List MemPlace} (hv : Value.okWide Tryd.prog W .any base 9 v) (h : DataW.Trod enc Tryd.prog W 0 (fun _ => true) true 9 v d p) :
    ∃ s : ByteArray, v = .string s ∧ s.size ≤ maxLen := by
  obtain ⟨s, rfl, _, _, hs⟩ := open_string Tryd.underlying9 hv h
  exact ⟨s, rfl, hs⟩
end
end Go.Proofs.YtdbidlnkaplekaaDoor
