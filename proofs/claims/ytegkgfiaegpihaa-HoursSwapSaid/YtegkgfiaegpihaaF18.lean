/- Rosters of hours: the first of some new rosters that cost the least; Roster and Least of the specification. -/
import Derived.Test.YtegkgfiaegpihaaF17

set_option linter.unusedSimpArgs false

set_option linter.unusedVariables false

namespace Go.Proofs.Ytegkgfiaegpihaa

open Go.RowKit

theorem flB_from {D : Ro} {L : List (List Int)} (h : 0 < L.length) : L.foldl (btr D) (some (L.getD 0 [])) = flB D L := by
  cases L with
  | nil => simp at h
  | cons l t =>
    show t.foldl (btr D) (btr D (some l) l) = t.foldl (btr D) (btr D none l)
    have e : btr D (some l) l = some l := by simp [btr]
    rw [e]; rfl
/-- lists that are new rosters -/
structure NwL (D : Ro) (L : List (List Int)) : Prop where
  le : L.length ≤ 262144
  nw : ∀ l, l ∈ L → l.length = D.m ∧ NR D (asF l)
theorem nws_nw {D : Ro} (hD : OkP D) : NwL D (nws D) :=
  ⟨Nat.le_trans (List.length_filter_le _ _) (lsts_le hD (by omega)).2, fun l h => (nws_mem hD).1 h⟩
theorem getD_mem {L : List (List Int)} {k : Nat} (h : k < L.length) : L.getD k [] ∈ L := by
  simp only [List.getD_eq_getElem?_getD, List.getElem?_eq_getElem h, Option.getD_some]; exact List.getElem_mem h
/-- one of the lists, in memory -/
theorem lst_at {w : World} {lo : Nat} {D : Ro} {L : List (List Int)} {b o : Nat} (hN : NwL D L) (h : LstIn w lo L (some ⟨b, o, none⟩)) {k : Nat} (hk : k < L.length) : ∃ q c, w.cell? ⟨b, o + k, none⟩ = some (.slice q D.m c) ∧ NumIn w w.heap.size D.m (asF (L.getD k [])) q ∧ b < w.heap.size := by
  obtain ⟨b', o', e, hb, hc⟩ := h (by omega)
  cases e
  obtain ⟨v, hv, hr⟩ := hc k hk
  obtain ⟨q, c, e2, hn⟩ := hr.num
  have hl := (hN.nw _ (getD_mem hk)).1
  rw [hl] at e2 hn
  subst e2
  exact ⟨q, c, hv, hn, hb⟩
set_option maxRecDepth 100000 in
set_option maxHeartbeats 8000000 in
theorem leastR_any (D : Ro) (L : List (List Int)) (p q yl : Option Addr) (c d cl : Nat) (w : World) (hD : OkP D) (hN : NwL D L) (h0 : 0 < L.length) (hi : RoIn w w.heap.size D p q) (hl : LstIn w 0 L yl) :
    Calls Try.prog 86 #[.agg #[.slice p D.n c, .slice q D.m d], .slice yl L.length cl] w fun e w' => ∃ bl y c', flB D L = some bl ∧ e = .returned (.slice y D.m c') ∧ Below w.heap.size w w' ∧ NumIn w' w'.heap.size D.m (asF bl) y := by
  obtain ⟨w1, x1, hw1, hb1, hz1, F0, F1, _⟩ := box_ro w p q D.n D.m c d
  have HB := Lib.hid hb1
  have HI : Hid (∀ x : Ext w1, RoIn x.v x.v.heap.size D p q) := fun x => (hi.bel hb1).bel x.b
  have HLS := Lib.hid (fun x : Ext w1 => (hl.bel hb1).bel x.b)
  have HD := Lib.hid hD; have HN := Lib.hid hN
  have hn8 := hD.n; have hm6 := hD.m
  have hle := hN.le
  obtain ⟨bq, oq, rfl, _, _⟩ := hl h0
  obtain ⟨q0, c0, hc0, hn0, hbq⟩ := lst_at hN (HLS.out x1) h0
  rw [Nat.add_zero] at hc0
  have HN0 := Lib.hid hn0
  have HFB := Lib.hid (flB_from (D := D) h0)
  have hli : (0 : Int) < (L.length : Int) := by omega
  clear hb1 hz1 hi hl hD hN hn0
  go_enter Try.func86, Try.ntmps86
  go_wp2
  clear hc0 hw1
  go_loopw [5, 6] (fun v i wr => ∃ k : Nat, i = .int .i64 (k : Int) ∧ k ≤ L.length ∧ ∃ z : Ext w1, wr = z.v ∧ ∃ bl y c', v = .slice y D.m c' ∧ (L.take k).foldl (btr D) (some (L.getD 0 [])) = some bl ∧ bl ∈ L ∧ NumIn z.v z.v.heap.size D.m (asF bl) y) (fun v i _ => L.length - (intOf i).toNat)
  case atStart => exact ⟨0, rfl, Nat.zero_le _, x1, rfl, _, _, _, rfl, rfl, getD_mem h0, HN0.out⟩
  case round =>
    obtain ⟨k, rfl, hk, z, rfl, bl, yb, cb, rfl, hfb, hbl, hnb⟩ := hrel
    have HFK := Lib.hid hfb; have HBL := Lib.hid hbl; have HNB := Lib.hid hnb
    clear hfb hnb
    by_cases hlt : k < L.length
    · have jk : decide ((k : Int) < (L.length : Int)) = true := by simp; omega
      have hkl : (k : Int) < (L.length : Int) := by omega
      have hst := fold_take (btr D) (some (L.getD 0 [])) hlt
      rw [HFK.out] at hst
      have hmk := getD_mem hlt
      obtain ⟨qk, ck, hck, hnk, hbk⟩ := lst_at HN.out (HLS.out z) hlt
      obtain ⟨l, hl⟩ : ∃ l, L.getD k [] = l := ⟨_, rfl⟩
      rw [hl] at hst hnk hmk
      have CK : ∀ y : Ext z.v, y.v.cell? ⟨bq, oq + k, none⟩ = some (.slice qk D.m ck) := fun y => (y.b.cell (p := ⟨bq, oq + k, none⟩) hbk).trans hck
      have FZ0 : ∀ y : Ext z.v, y.v.cell? ⟨w.heap.size, 0, none⟩ = some (.slice p D.n c) := fun y => F0 (y.up z.b)
      have FZ1 : ∀ y : Ext z.v, y.v.cell? ⟨w.heap.size, 1, none⟩ = some (.slice q D.m d) := fun y => F1 (y.up z.b)
      have HNK := Lib.hid (fun y : Ext z.v => hnk.bel y.b)
      have HNY := Lib.hid (fun y : Ext z.v => HNB.out.bel y.b)
      have nl := (HN.out.nw _ hmk).2
      have nb := (HN.out.nw _ hbl).2
      obtain ⟨ca, hca⟩ : ∃ x, costF D (asF l) D.m = x := ⟨_, rfl⟩
      obtain ⟨cc, hcc⟩ : ∃ x, costF D (asF bl) D.m = x := ⟨_, rfl⟩
      have HCA := Lib.hid (fun y : Ext z.v => costR_any D p q qk c d ck (asF l) y.v HD.out (nl.inH HD.out) (HI.out (y.up z.b)) (HNK.out y))
      have HCC := Lib.hid (fun y : Ext z.v => costR_any D p q yb c d cb (asF bl) y.v HD.out (nb.inH HD.out) (HI.out (y.up z.b)) (HNY.out y))
      rw [hca] at HCA
      rw [hcc] at HCC
      have e1 : btr D (some bl) l = if ca < cc then some l else some bl := by rw [← hca, ← hcc]; rfl
      rw [e1] at hst
      have HMK := Lib.hid hmk
      obtain ⟨y00, hy00⟩ := rebase z.v
      clear hck hnk hbk hl nl nb hca hcc e1 hmk hbl hk
      by_cases hlt2 : ca < cc
      · rw [if_pos hlt2] at hst
        have HST := Lib.hid hst
        have j2 : decide (ca < cc) = true := by simp; omega
        clear hst
        rw [hy00]
        clear hy00
        go_wp2
        refine quiet_e (by kernel_rfl) (by kernel_rfl) ?_
        repeat (first | go_big_quiet_step ((first | (go_at_call 24; with_reducible exact quiet_x (HCA.out _)) | (go_at_call 24; with_reducible exact quiet_x (HCC.out _)))) | quiet_step ((first | (go_at_call 24; with_reducible exact quiet_x (HCA.out _)) | (go_at_call 24; with_reducible exact quiet_x (HCC.out _)))))
        refine wpQuiet_nil ?_
        intro w6 hw6
        obtain ⟨y3, rfl⟩ := hw6
        go_wp2
        go_roundw
        case rel => exact ⟨k + 1, by go_num, hlt, ⟨y3.v, bT z.b y3.b⟩, rfl, l, _, _, rfl, HST.out, HMK.out, HNK.out y3⟩
        case measure => first | (simp [intOf]; done) | (simp [intOf]; omega)
      · rw [if_neg hlt2] at hst
        have HST := Lib.hid hst
        have j2 : decide (ca < cc) = false := by simp; omega
        clear hst
        rw [hy00]
        clear hy00
        go_wp2
        refine quiet_e (by kernel_rfl) (by kernel_rfl) ?_
        repeat (first | go_big_quiet_step ((first | (go_at_call 24; with_reducible exact quiet_x (HCA.out _)) | (go_at_call 24; with_reducible exact quiet_x (HCC.out _)))) | quiet_step ((first | (go_at_call 24; with_reducible exact quiet_x (HCA.out _)) | (go_at_call 24; with_reducible exact quiet_x (HCC.out _)))))
        refine wpQuiet_nil ?_
        intro w6 hw6
        obtain ⟨y3, rfl⟩ := hw6
        go_wp2
        go_roundw
        case rel => exact ⟨k + 1, by go_num, hlt, ⟨y3.v, bT z.b y3.b⟩, rfl, bl, _, _, rfl, HST.out, HBL.out, HNY.out y3⟩
        case measure => first | (simp [intOf]; done) | (simp [intOf]; omega)
    · have hke : k = L.length := by omega
      subst hke
      have jk : decide ((L.length : Int) < (L.length : Int)) = false := by simp
      rw [List.take_length, HFB.out] at HFK
      clear hk hlt hbl
      go_wp2
      go_ret
      first | exact ⟨_, _, _, HFK.out, rfl, bT HB.out z.b, HNB.out⟩ | exact ⟨_, _, ⟨HFK.out, ⟨_, rfl⟩, bT HB.out z.b, HNB.out⟩⟩ | (trace_state; sorry)
end Go.Proofs.Ytegkgfiaegpihaa
