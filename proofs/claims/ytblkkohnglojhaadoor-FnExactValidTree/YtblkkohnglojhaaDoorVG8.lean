/-
  The walk of l2fields.
-/
import Derived.Test.YtblkkohnglojhaaDoorVG3
import Derived.Test.YtblkkohnglojhaaDoorVG4
import Derived.Test.YtblkkohnglojhaaDoorVG5
import Derived.Test.YtblkkohnglojhaaDoorVG6
import Derived.Test.YtblkkohnglojhaaDoorVG7
namespace Go.Proofs.YtblkkohnglojhaaDoor
open Go.RowKit

theorem l2fields_any (d : Nd) (vt vn vy : Value) (w : World) (h : NV w d vt vn vy) (hb : NB d) :
    Calls Tryd.prog 18 #[.agg #[.int .i64 d.kind, .int .i64 d.n, vt, vn, vy, .int .i64 d.count]] w fun e w' => e = .returned (.bool (vFd d)) ∧ Below w.heap.size w w' := by
  obtain ⟨K, N, T, M, Y, C⟩ := d
  by_cases h1 : K = 1
  · subst h1; exact fields_1 N C T M Y vt vn vy w h hb
  by_cases h3 : K = 3
  · subst h3; exact fields_3 N C T M Y vt vn vy w h hb
  by_cases h4 : K = 4
  · subst h4; exact fields_4 N C T M Y vt vn vy w h hb
  by_cases h5 : K = 5
  · subst h5; exact fields_5 N C T M Y vt vn vy w h hb
  by_cases h19 : K = 19
  · subst h19; exact fields_19 N C T M Y vt vn vy w h hb
  by_cases h17 : K = 17
  · subst h17; exact fields_17 N C T M Y vt vn vy w h hb
  by_cases h10 : K = 10
  · subst h10; exact fields_10 N C T M Y vt vn vy w h hb
  by_cases h11 : K = 11
  · subst h11; exact fields_11 N C T M Y vt vn vy w h hb
  by_cases h12 : K = 12
  · subst h12; exact fields_12 N C T M Y vt vn vy w h hb
  by_cases h16 : K = 16
  · subst h16; exact fields_16 N C T M Y vt vn vy w h hb
  by_cases h18 : K = 18
  · subst h18; exact fields_18 N C T M Y vt vn vy w h hb
  by_cases h20 : K = 20
  · subst h20; exact fields_20 N C T M Y vt vn vy w h hb
  exact fields_o K N C T M Y vt vn vy w (beq_eq_false_iff_ne.2 h1) (beq_eq_false_iff_ne.2 h3) (beq_eq_false_iff_ne.2 h4) (beq_eq_false_iff_ne.2 h5) (beq_eq_false_iff_ne.2 h19) (beq_eq_false_iff_ne.2 h17) (beq_eq_false_iff_ne.2 h10) (beq_eq_false_iff_ne.2 h11) (beq_eq_false_iff_ne.2 h12) (beq_eq_false_iff_ne.2 h16) (beq_eq_false_iff_ne.2 h18) (beq_eq_false_iff_ne.2 h20) h hb
end Go.Proofs.YtblkkohnglojhaaDoor
