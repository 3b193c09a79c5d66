/- Towns with worlds: a world's copy, in the specification's words. -/
import Derived.Test.YtdjkbpenppdnlaaDoorK3

import Derived.Test.YtdjkbpenppdnlaaDoorE8

set_option linter.unusedSimpArgs false

set_option linter.unusedVariables false

namespace Go.Proofs.YtdjkbpenppdnlaaDoor

open Go.RowKit

/-- where the copy of a world stands after so many rows: its box, the row that it owns, and the rows that it leads to -/
structure CW (wr : World) (T : Tn) (k go gr lo n : Nat) (v : Value) (u : Nat → Option Addr × Nat) : Prop where
  oc : wr.cell? ⟨go, 0, none⟩ = some v
  of : wr.frozen? ⟨go, 0, none⟩ = false
  og : go < lo
  rc : wr.cell? ⟨gr, 0, none⟩ = some (.slice none 0 0)
  rf : wr.frozen? ⟨gr, 0, none⟩ = false
  rg : gr < go
  lw : lo ≤ wr.heap.size
  own : wr.ownsRow lo 31 1 v n (rowG (fun i => .slice (u i).1 (T.cl k i) (u i).2) n)
  fre : Fre wr lo v.ownBlock (fun W => ∀ i, i < n → At W W.heap.size (u i).1 (T.cl k i) 1 (fun j => .int .i64 (T.fa k i j)))
theorem CW.bel {wr w' : World} {T : Tn} {k go gr lo n : Nat} {v : Value} {u : Nat → Option Addr × Nat} (h : CW wr T k go gr lo n v u) (hb : Below wr.heap.size wr w') : CW w' T k go gr lo n v u := by
  have h1 := h.og; have h2 := h.rg; have h3 := h.lw
  exact ⟨(hb.cell (p := ⟨go, 0, none⟩) (by show go < _; omega)).trans h.oc, (hb.frozen (p := ⟨go, 0, none⟩) (by show go < _; omega)).trans h.of, h1, (hb.cell (p := ⟨gr, 0, none⟩) (by show gr < _; omega)).trans h.rc, (hb.frozen (p := ⟨gr, 0, none⟩) (by show gr < _; omega)).trans h.rf, h2, Nat.le_trans h3 hb.size, own_below h.own hb, h.fre.bel hb⟩
theorem CW.next {wa w' wb w2 : World} {T : Tn} {k go gr lo q : Nat} {v v' : Value} {u : Nat → Option Addr × Nat} {ip y1 : Option Addr} {c' : Nat} (h : CW wa T k go gr lo q v u) (hA : At wa wa.heap.size ip (T.cl k q) 1 (fun j => .int .i64 (T.fa k q j)))
    (hc : CopiedF wa w' ip (T.cl k q * 1) y1) (hb2 : Below w'.heap.size w' wb) (ho : w2.ownsRow lo 31 1 v' (q + 1) (rowG (fun i => .slice (u i).1 (T.cl k i) (u i).2) q ++ [.slice y1 (T.cl k q) c']))
    (hg : wb.grownBy w2 v.ownBlock) (hn : ∀ g, v'.ownBlock = some g → v.ownBlock = some g ∨ wb.heap.size ≤ g) : CW (w2.setCell ⟨go, 0, none⟩ v') T k go gr lo (q + 1) v' (upd u q (y1, c')) := by
  have hb := h.bel (bT hc.below hb2)
  have h1 := hb.og; have h2 := hb.rg; have h3 := hb.lw
  have hlt : ∀ g, v.ownBlock = some g → lo ≤ g ∧ g < wa.heap.size := fun g e => h.own.lt g e
  have hne : ∀ b, b < lo → w2.heap[b]? = wb.heap[b]? := fun b hb' => hg.block b (by omega) (fun e => by have := (hlt b e.symm).1; omega)
  have c : w2.cell? ⟨go, 0, none⟩ = some v := (World.cell?_of_block (a := ⟨go, 0, none⟩) (hne go h1)).trans hb.oc
  have f : w2.frozen? ⟨go, 0, none⟩ = false := (World.frozen?_of_block (a := ⟨go, 0, none⟩) (hne go h1)).trans hb.of
  have r : w2.frozen? ⟨gr, 0, none⟩ = false := (World.frozen?_of_block (a := ⟨gr, 0, none⟩) (hne gr (by omega))).trans hb.rf
  have r' : w2.cell? ⟨gr, 0, none⟩ = some (.slice none 0 0) := (World.cell?_of_block (a := ⟨gr, 0, none⟩) (hne gr (by omega))).trans hb.rc
  have hsz := hg.size
  refine ⟨by go_simp, by go_simp, h1, by rw [World.cell?_setCell_other _ _ _ _ (by simp; try omega)]; exact r', by go_simp, h2, by simpa using Nat.le_trans h3 hsz, ?_, ?_⟩
  · rw [show rowG (fun i => Value.slice (upd u q (y1, c') i).1 (T.cl k i) (upd u q (y1, c') i).2) (q + 1) = rowG (fun i => .slice (u i).1 (T.cl k i) (u i).2) q ++ [.slice y1 (T.cl k q) c'] from rowG_upd (F := fun i (a : Option Addr × Nat) => Value.slice a.1 (T.cl k i) a.2)]
    exact own_set ho _ _ h1
  · refine Fre.set ?_ _ _ h1
    refine Fre.step (P := fun i (a : Option Addr × Nat) W => At W W.heap.size a.1 (T.cl k i) 1 (fun j => .int .i64 (T.fa k i j))) (hb.fre.grown hg hn) ?_
    exact ((((copied_at (by decide) hA hc).bel hb2).row (row' := v.ownBlock) fun g e => (hlt g e).2).lo h.lw).grown hg hn
set_option maxRecDepth 100000 in
set_option maxHeartbeats 4000000 in
theorem copyWorld_any (T : Tn) (k : Nat) (u : Wad) (w : World) (hn : T.rl k ≤ 40) (hcl : ∀ i, i < T.rl k → T.cl k i ≤ 40) (hi : WIn w T k u) :
    Calls Tryd.prog 65 #[.agg #[.slice u.p (T.rl k) u.c]] w fun e w' => ∃ u' : Wad, e = .returned (.agg #[.slice u'.p (T.rl k) u'.c]) ∧ Below w.heap.size w w' ∧ Fre w' w.heap.size none (fun W => WIn W T k u') := by
  obtain ⟨w1, x, hw1, hb1, hz1, F0, _⟩ := box_wd w u.p (T.rl k) u.c
  obtain ⟨w2, x2, hw2, hb2, hz2, R0, Rf⟩ := box_wd x.v none 0 0
  obtain ⟨w3, x3, hw3, hb3, hz3, O0, Of⟩ := box_wd x2.v none 0 0
  have hb13 : Below w1.heap.size w1 x3.v := bT x.b (bT (bT hb2 x2.b) (bT hb3 x3.b))
  have HI : Hid (∀ z : Ext w1, WIn z.v T k u) := fun z => (hi.mono hb1).mono z.b
  have HB := Lib.hid hb1
  have HCL := Lib.hid hcl
  obtain ⟨go, hgo⟩ : ∃ g, x2.v.heap.size = g := ⟨_, rfl⟩
  obtain ⟨gr, hgr⟩ : ∃ g, x.v.heap.size = g := ⟨_, rfl⟩
  obtain ⟨n, hn'⟩ : ∃ n, T.rl k = n := ⟨_, rfl⟩
  have HN := Lib.hid hn'
  have hS0 : CW x3.v T k go gr w3.heap.size 0 (.slice none 0 0) (fun _ => (none, 0)) := by
    have h1 := hb2.size; have h2 := x2.b.size; have h3 := x3.b.size; have h4 := hb3.size
    refine ⟨by rw [← hgo]; exact O0 x3, by rw [← hgo]; exact Of x3 0, by omega, by rw [← hgr]; exact R0 ⟨x3.v, bT x2.b (bT hb3 x3.b)⟩, by rw [← hgr]; exact Rf ⟨x3.v, bT x2.b (bT hb3 x3.b)⟩ 0, by omega, x3.b.size, ⟨by rfl, .inl ⟨by rfl, by rfl⟩⟩, Fre.triv fun W i h => absurd h (Nat.not_lt_zero _)⟩
  have HLO : Hid (w.heap.size ≤ w3.heap.size ∧ w1.heap.size ≤ gr) := by
    have h1 := hb2.size; have h2 := x2.b.size; have h3 := hb3.size; have h4 := x.b.size; have h5 := hb1.size
    exact ⟨by omega, by omega⟩
  have HS0 := Lib.hid hS0
  have HB13 := Lib.hid hb13
  obtain ⟨i3, hi3, hz3, hz3', hz3''⟩ := info_parts infoI
  have I3 := Lib.hid hi3; have Z3 := Lib.hid hz3; have Z3' := Lib.hid hz3'; have Z3'' := Lib.hid hz3''
  obtain ⟨i5, hi5, hz5, hz5', hz5''⟩ := info_parts infoL
  have I5 := Lib.hid hi5; have Z5 := Lib.hid hz5; have Z5' := Lib.hid hz5'; have Z5'' := Lib.hid hz5''
  rw [hn'] at hn F0 hw1 ⊢
  clear hb1 hz1 hi hcl hb2 hz2 hb3 hb13 hS0 R0 Rf O0 Of hn' hi3 hz3 hz3' hz3'' hi5 hz5 hz5' hz5''
  go_enter Tryd.func65, Tryd.ntmps65
  go_wp2
  try rw [hgo]
  try rw [hgr]
  go_loopw [4] (fun i wr => ∃ q : Nat, i = .int .i64 q ∧ q ≤ n ∧ ∃ y : Ext w1, wr = y.v ∧ ∃ v u', CW wr T k go gr w3.heap.size q v u') (fun i _ => n - (intOf i).toNat)
  case atStart => exact ⟨0, rfl, Nat.zero_le _, ⟨x3.v, HB13.out⟩, rfl, _, _, HS0.out⟩
  case round =>
    clear hw1 hw2 hw3 hgo hgr HS0 HB13
    obtain ⟨q, rfl, hq, y, rfl, v, u', hS⟩ := hrel
    have f0 := F0 y
    have HS := Lib.hid hS
    by_cases hlt : q < n
    · have j : decide ((q : Int) < (n : Int)) = true := by simp; omega
      obtain ⟨b1, o1, hr1, _, hc1⟩ := (HI.out y).rs (by rw [HN.out]; omega)
      rw [hr1] at F0 f0
      have c0 : ∀ z : Ext w1, z.v.cell? ⟨b1, o1 + q, none⟩ = some (.slice (u.ip q) (T.cl k q) (u.ic q)) := fun z => At.cell (f := fun i => .slice (u.ip i) (T.cl k i) (u.ic i)) (by have := (HI.out z).rs; rwa [hr1, HN.out] at this) (by omega)
      have HA : Hid (∀ z : Ext w1, At z.v z.v.heap.size (u.ip q) (T.cl k q) 1 (fun j => .int .i64 (T.fa k q j))) := fun z => (HI.out z).is q (by rw [HN.out]; omega)
      have HM := Lib.hid (HCL.out q (by rw [HN.out]; omega))
      have HQ := Lib.hid hlt
      clear hr1 hc1
      go_wp2
      have hc0 : y.v.drew.cell? ⟨go, 0, none⟩ = some v := hS.oc
      clear hS
      refine wp_region_last (fun W => (∃ z : Ext w1, W = z.v) ∧ W.cell? ⟨go, 0, none⟩ = some v) 12 (by kernel_rfl) rfl ⟨⟨⟨y.v.drew, bd y.b⟩, rfl⟩, hc0⟩ (fun hSw => ?_)
      obtain ⟨yd, hyd⟩ : ∃ z : Ext w1, y.v.drew = z.v := ⟨⟨_, bd y.b⟩, rfl⟩
      have HS := Lib.hid (HS.out.bel (bd (Below.refl _ _)))
      rw [hyd] at HS hSw ⊢
      clear hyd hc0 f0
      refine wpAnyG_take (i := 0) (v := ?_) (by kernel_rfl) rfl (by kernel_rfl) (by kernel_rfl) (by kernel_rfl) (fun _ _ _ h => h) (Or.inl ⟨by rfl, ?_⟩) (by assumption) ?_
      rotate_left
      · rintro wS ⟨⟨yS, rfl⟩, hcS⟩
        go_simp
        try (with_reducible rfl)
      try simp only [Act.put, List.setIfInBounds_toArray, List.set_cons_zero, List.set_cons_succ]
      refine wpAnyG_take (i := 1) (v := ?_) (by kernel_rfl) rfl (by kernel_rfl) (by kernel_rfl) (by kernel_rfl) (fun _ _ _ h => h) (Or.inl ⟨by rfl, ?_⟩) (by assumption) ?_
      rotate_left
      · rintro wS ⟨⟨yS, rfl⟩, hcS⟩
        go_simp
        try (with_reducible rfl)
      try simp only [Act.put, List.setIfInBounds_toArray, List.set_cons_zero, List.set_cons_succ]
      refine wpAnyG_take (i := 3) (v := ?_) (by kernel_rfl) rfl (by kernel_rfl) (by kernel_rfl) (by kernel_rfl) (fun _ _ _ h => h) (Or.inl ⟨by rfl, ?_⟩) (by assumption) ?_
      rotate_left
      · rintro wS ⟨⟨yS, rfl⟩, hcS⟩
        go_simp
        try (with_reducible rfl)
      try simp only [Act.put, List.setIfInBounds_toArray, List.set_cons_zero, List.set_cons_succ]
      refine wpAnyG_take (i := 4) (v := ?_) (by kernel_rfl) rfl (by kernel_rfl) (by kernel_rfl) (by kernel_rfl) (fun _ _ _ h => h) (Or.inl ⟨by rfl, ?_⟩) (by assumption) ?_
      rotate_left
      · rintro wS ⟨⟨yS, rfl⟩, hcS⟩
        go_simp
        try (with_reducible rfl)
      try simp only [Act.put, List.setIfInBounds_toArray, List.set_cons_zero, List.set_cons_succ]
      refine wpAnyG_take (i := 5) (v := ?_) (by kernel_rfl) rfl (by kernel_rfl) (by kernel_rfl) (by kernel_rfl) (fun _ _ _ h => h) (Or.inl ⟨by rfl, ?_⟩) (by assumption) ?_
      rotate_left
      · rintro wS ⟨⟨yS, rfl⟩, hcS⟩
        go_simp
        try (with_reducible rfl)
      try simp only [Act.put, List.setIfInBounds_toArray, List.set_cons_zero, List.set_cons_succ]
      refine wpAnyG_take (i := 6) (v := ?_) (by kernel_rfl) rfl (by kernel_rfl) (by kernel_rfl) (by kernel_rfl) (fun _ _ _ h => h) (Or.inl ⟨by rfl, ?_⟩) (by assumption) ?_
      rotate_left
      · rintro wS ⟨⟨yS, rfl⟩, hcS⟩
        go_simp
        try (with_reducible rfl)
      try simp only [Act.put, List.setIfInBounds_toArray, List.set_cons_zero, List.set_cons_succ]
      refine wpAnyG_take (i := 7) (v := ?_) (by kernel_rfl) rfl (by kernel_rfl) (by kernel_rfl) (by kernel_rfl) (fun _ _ _ h => h) (Or.inl ⟨by rfl, ?_⟩) (by assumption) ?_
      rotate_left
      · rintro wS ⟨⟨yS, rfl⟩, hcS⟩
        go_simp
        try (with_reducible rfl)
      try simp only [Act.put, List.setIfInBounds_toArray, List.set_cons_zero, List.set_cons_succ]
      refine wpAnyG_one (i := 2) (by kernel_rfl) (by decide) (wpOp_plain rfl rfl ?_)
      go_simp
      obtain ⟨ya, hya⟩ : ∃ z : Ext w1, yd.v.alloc (Obj.cells #[] 3) = z.v := ⟨⟨_, bA yd.b _⟩, rfl⟩
      have HSa := Lib.hid (show CW ya.v T k go gr w3.heap.size q v u' by rw [← hya]; exact HS.out.bel (bA (Below.refl _ _) _))
      rw [hya]
      clear hya HS hSw
      have hSw : (∃ z : Ext w1, ya.v = z.v) ∧ ya.v.cell? ⟨go, 0, none⟩ = some v := ⟨⟨_, rfl⟩, HSa.out.oc⟩
      refine ⟨hSw, ?_⟩
      try simp only [Act.put, List.setIfInBounds_toArray, List.set_cons_zero, List.set_cons_succ]
      refine wpAnyG_one (i := 8) (by kernel_rfl) (by decide) (wpOp_plain rfl rfl ?_)
      refine append_copyE (ops := #[]) rfl (.tmp 14) (.tmp 19) 31 rfl 3 i3 _ 1 8 Tryd.underlying31 I3.out Z3.out Z3'.out Z3''.out rfl (by decide) _ (by simp [Act.eval, Act.put]; rfl) (u.ip q) (T.cl k q) (u.ic q) (by simp [Act.eval, Act.put]) ((HA.out ya).src (fun _ _ => rfl)) (by have := HM.out; unfold maxLen; omega) (by have := HM.out; omega) ?_
      intro y1 c' w' hc
      obtain ⟨yb, rfl⟩ : ∃ z : Ext w1, w' = z.v := ⟨⟨_, bT ya.b hc.below⟩, rfl⟩
      have HC := Lib.hid hc
      clear hc hSw
      have hSw : (∃ z : Ext w1, yb.v = z.v) ∧ yb.v.cell? ⟨go, 0, none⟩ = some v := ⟨⟨_, rfl⟩, (HSa.out.bel HC.out.below).oc⟩
      refine ⟨hSw, ?_⟩
      try simp only [Act.put, List.setIfInBounds_toArray, List.set_cons_zero, List.set_cons_succ]
      refine wpAnyG_one (i := 9) (by kernel_rfl) (by decide) (wpOp_plain rfl rfl ?_)
      go_simp
      obtain ⟨yc, hyc⟩ : ∃ z : Ext w1, yb.v.alloc (Obj.cells #[.slice y1 (T.cl k q) c'] 31) = z.v := ⟨⟨_, bA yb.b _⟩, rfl⟩
      have HBC := Lib.hid (show Below yb.v.heap.size yb.v yc.v by rw [← hyc]; exact bA (Below.refl _ _) _)
      have HL := Lib.hid (show ∀ (j : Nat) (x : Value), [Value.slice y1 (T.cl k q) c'][j]? = some x → yc.v.cell? ((⟨yb.v.heap.size, 0, none⟩ : Addr).add j) = some x by rw [← hyc]; exact lit_cells1 _ _ _)
      have HSc := Lib.hid ((HSa.out.bel HC.out.below).bel HBC.out)
      rw [hyc]
      clear hyc hSw
      have hSw : (∃ z : Ext w1, yc.v = z.v) ∧ yc.v.cell? ⟨go, 0, none⟩ = some v := ⟨⟨_, rfl⟩, HSc.out.oc⟩
      refine ⟨hSw, ?_⟩
      try simp only [Act.put, List.setIfInBounds_toArray, List.set_cons_zero, List.set_cons_succ]
      refine wpAnyG_one (i := 10) (by kernel_rfl) (by decide) (wpOp_plain rfl rfl ?_)
      refine wp_append_one rfl (.tmp 13) (.tmp 21) 81 rfl w3.heap.size 31 i5 _ 1 24 Tryd.underlying81 I5.out Z5.out Z5'.out Z5''.out rfl (by decide) v q _ (by simp [Act.eval, Act.put]) HSc.out.own ⟨yb.v.heap.size, 0, none⟩ 1 1 [.slice y1 (T.cl k q) c'] (by simp [Act.eval, Act.put]) rfl HL.out (by simp [Value.oneCell']) (by decide) (by unfold maxLen; omega) (by omega) HSc.out.lw ?_
      intro v' w2 hown hgrow hnew
      obtain ⟨p', cp', hv', _⟩ := own_form hown
      subst hv'
      have hb2 := below_grown (a := w1) yc.b HSc.out.own (by have := HLO.out; have := HSc.out.og; have := HSc.out.rg; omega) hgrow
      obtain ⟨ye, rfl⟩ : ∃ z : Ext w1, w2 = z.v := ⟨⟨_, hb2⟩, rfl⟩
      have HNX := Lib.hid (CW.next HSa.out (HA.out ya) HC.out HBC.out hown hgrow hnew)
      have hne : ∀ b, b < w3.heap.size → ye.v.heap[b]? = yc.v.heap[b]? := fun b hb' => hgrow.block b (Nat.lt_of_lt_of_le hb' HSc.out.lw) (fun e => by have := (HSc.out.own.lt b e.symm).1; omega)
      have c : ye.v.cell? ⟨go, 0, none⟩ = some v := (World.cell?_of_block (a := ⟨go, 0, none⟩) (hne go HSc.out.og)).trans HSc.out.oc
      have f : ye.v.frozen? ⟨go, 0, none⟩ = false := (World.frozen?_of_block (a := ⟨go, 0, none⟩) (hne go HSc.out.og)).trans HSc.out.of
      have HG := Lib.hid (show w1.heap.size ≤ go by have := HLO.out; have := HSc.out.rg; omega)
      clear hown hgrow hnew hb2 hne hSw
      refine ⟨⟨⟨_, rfl⟩, c⟩, ?_⟩
      have hSw : (∃ z : Ext w1, ye.v = z.v) ∧ ye.v.cell? ⟨go, 0, none⟩ = some v := ⟨⟨_, rfl⟩, c⟩
      try simp only [Act.put, List.setIfInBounds_toArray, List.set_cons_zero, List.set_cons_succ]
      refine wpAnyG_take (i := 11) (v := ?_) (by kernel_rfl) rfl (by kernel_rfl) (by kernel_rfl) (by kernel_rfl) (fun _ _ _ h => h) (Or.inl ⟨by rfl, ?_⟩) (by assumption) ?_
      rotate_left
      · rintro wS ⟨⟨yS, rfl⟩, hcS⟩
        go_simp
        try (with_reducible rfl)
      try simp only [Act.put, List.setIfInBounds_toArray, List.set_cons_zero, List.set_cons_succ]
      refine wpAnyG_done (by kernel_rfl) (by kernel_rfl) (wpOp_plain rfl rfl ?_)
      go_simp
      go_wp2
      go_roundw
      case rel => exact ⟨q + 1, by go_num, HQ.out, ⟨_, bS ye.b HG.out _⟩, rfl, _, _, HNX.out⟩
      case measure => first | (simp [intOf]; done) | (simp [intOf]; omega)
    · have j : decide ((q : Int) < (n : Int)) = false := by simp; omega
      have hqn : q = n := by omega
      subst hqn
      obtain ⟨p, c, hv, hf⟩ := own_form HS.out.own
      subst hv
      have c0 := HS.out.oc
      have r0 := HS.out.rf
      have r1 := HS.out.rc
      have h1 := HS.out.og; have h2 := HS.out.rg; have h3 := HS.out.lw
      have HBY := Lib.hid (bT HB.out y.b)
      have HG := Lib.hid (show w.heap.size ≤ gr by have := HLO.out; have := HB.out.size; omega)
      have HW : Hid (Fre y.v w3.heap.size none (fun W => WIn W T k ⟨p, c, fun i => (u' i).1, fun i => (u' i).2⟩)) := by
        have e1 := HS.out.own
        have a1 : At y.v y.v.heap.size p q 1 (fun i => .slice (u' i).1 (T.cl k i) (u' i).2) := by
          obtain ⟨p', c', e, ha⟩ := row_own e1
          cases e; exact ha
        have f1 : Fre y.v w3.heap.size none (fun W => At W W.heap.size p q 1 (fun i => .slice (u' i).1 (T.cl k i) (u' i).2)) := Fre.at a1 fun h0 b o e => by
          obtain ⟨g, e2, hg, _⟩ := hf h0
          rw [e] at e2; cases e2
          exact ⟨hg, by simp⟩
        refine (f1.and HS.out.fre.nil).imp fun W ⟨a, b⟩ => ⟨by rw [HN.out]; exact a, fun i hi => b i (by rw [HN.out] at hi; exact hi)⟩
      clear hS hf
      go_wp2
      have k0 : (y.v.setCell ⟨gr, 0, none⟩ (.slice p q c)).cell? ⟨gr, 0, none⟩ = some (.slice p q c) := by go_simp
      exact bodyPost_ret (v := .agg #[.slice p q c]) (by simp [results, Tryd.f65, go_sem, k0]) rfl ⟨⟨p, c, fun i => (u' i).1, fun i => (u' i).2⟩, rfl, bS HBY.out HG.out _, (HW.out.set _ _ (Nat.lt_trans h2 h1)).lo HLO.out.1⟩
end Go.Proofs.YtdjkbpenppdnlaaDoor
