/- Books of dowsers: Hit and Points of the specification, for any book and saying. -/
import Derived.Test.YtaaocomgmacjnaaA6

set_option linter.unusedSimpArgs false

set_option linter.unusedVariables false

namespace Go.Proofs.Ytaaocomgmacjnaa

open Go.RowKit

set_option maxHeartbeats 1000000 in
theorem askR_any (B : Book) (p q : Option Addr) (c d : Nat) (is : Bool) (w : World) (hF : B.F.length ≤ 1000000) (hS : B.S.length ≤ 1000000) (hb : BookIn w w.heap.size B p q) :
    Calls Try.prog 51 #[.agg #[.int .i64 B.D, .slice p B.F.length c, .int .i64 B.N, .slice q B.S.length d, .int .i64 B.P], .bool is] w fun e w' => e = .returned (.int .i64 (askErr B.ok is)) ∧ Below w.heap.size w w' := by
  obtain ⟨w1, hw1, hb1, hz1, x1⟩ := box_book w B p q c d
  have hv := checkR_any B p q c d w1 hF hS (hb.bel hb1)
  have HB := Lib.hid hb1
  obtain ⟨k0, k1, k2, k3, k4, k5⟩ := x1
  clear hb hb1 hz1
  rcases Bool.eq_false_or_eq_true B.ok with hok | hok
  · rw [hok, vErr_t] at hv
    have HV := Lib.hid hv; clear hv
    have HOK := Lib.hid hok; clear hok
    cases is with
    | true =>
      have HR := Lib.hid (show (0 : Int) = askErr B.ok true from by rw [HOK.out]; rfl)
      go_enter Try.func51, Try.ntmps51
      go_wp2_with (go_at_call 39; refine HV.out.mono ?_; rintro e w2 ⟨rfl, hb2⟩)
      go_ret
      exact ⟨ret_i HR.out, bT HB.out hb2⟩
    | false =>
      have HR := Lib.hid (show (1 : Int) = askErr B.ok false from by rw [HOK.out]; rfl)
      go_enter Try.func51, Try.ntmps51
      go_wp2_with (go_at_call 39; refine HV.out.mono ?_; rintro e w2 ⟨rfl, hb2⟩)
      go_ret
      exact ⟨ret_i HR.out, bT HB.out hb2⟩
  · rw [hok, vErr_f] at hv
    have HV := Lib.hid hv; clear hv
    have HR := Lib.hid (show (40 : Int) = askErr B.ok is from by rw [hok]; rfl); clear hok
    go_enter Try.func51, Try.ntmps51
    go_wp2_with (go_at_call 39; refine HV.out.mono ?_; rintro e w2 ⟨rfl, hb2⟩)
    go_ret
    exact ⟨ret_i HR.out, bT HB.out hb2⟩

end Go.Proofs.Ytaaocomgmacjnaa
