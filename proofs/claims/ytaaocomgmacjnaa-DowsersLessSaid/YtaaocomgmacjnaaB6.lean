/- DowsersLess returns true in every walk, whatever the book, the number and by how much. -/
import Derived.Test.YtaaocomgmacjnaaB5

set_option linter.unusedSimpArgs false

set_option linter.unusedVariables false

namespace Go.Proofs.Ytaaocomgmacjnaa

open Go.RowKit

theorem less_law (B : Book) (p q : Option Addr) (c d : Nat) (n u v : Int) (w : World) (hF : B.F.length ≤ maxLen) (hS : B.S.length ≤ maxLen) (ht : BookIn w w.heap.size B p q) :
    Calls Try.prog 3 #[.agg #[.int .i64 B.D, .slice p B.F.length c, .int .i64 B.N, .slice q B.S.length d, .int .i64 B.P], .int .i64 n, .agg #[.int .i64 u, .int .i64 v]] w fun e w' => e = .returned (.bool true) ∧ Below w.heap.size w w' := by
  cases hr : (!hugeB B && B.ok) with
  | false => exact less_not B p q c d n u v w hF hS ht hr
  | true =>
    have hg : hugeB B = false := by simp only [Bool.and_eq_true] at hr; simpa using hr.1
    have h1 : ¬ 40 < B.F.length ∧ ¬ 40 < B.S.length := by simpa [hugeB] using hg
    cases hn : within n 0 ((B.S.length : Int) - 1) with
    | false => exact less_no B p q c d n u v w (by omega) (by omega) ht hr hn
    | true =>
      by_cases hm : u < 0 ∨ v < 0
      · exact less_lo B p q c d n u v w (by omega) (by omega) ht hr hn hm
      · by_cases hM : 12 < u ∨ 12 < v
        · exact less_hi B p q c d n u v w (by omega) (by omega) ht hr hn (by omega) hM
        · obtain ⟨i0, i1⟩ := within_iff.1 hn
          obtain ⟨j, rfl⟩ : ∃ j : Nat, n = (j : Int) := ⟨n.toNat, by omega⟩
          exact less_main B p q c d j u v w (by omega) (by omega) ht hr (by omega) (by omega) (by omega)
end Go.Proofs.Ytaaocomgmacjnaa
