/- Rosters of hours: the first of the cheapest new rosters; Roster of the program. -/
import Derived.Test.YtegkgfiaegpihaaD0

set_option linter.unusedSimpArgs false

set_option linter.unusedVariables false

namespace Go.Proofs.Ytegkgfiaegpihaa

open Go.RowKit

theorem lfA_ok {D : Ro} {P : Pr} (hD : OkP D) (hn : (best D P).no = false) : ∀ k, k ≤ D.m → Rm (lfA D P k) ∧ Str D k (lfA D P k)
  | 0, _ => ⟨Rm.all hD, Str.zero D⟩
  | k + 1, hk => by
    obtain ⟨i1, i2⟩ := lfA_ok hD hn k (by omega)
    have hst := hD.st k (by omega)
    obtain ⟨j, hj⟩ : ∃ j, D.m - k = j + 1 := ⟨D.m - k - 1, by omega⟩
    have h0 := hr_step hD hn k (by omega)
    rw [hj] at h0
    obtain ⟨x, e, a1, a2, _, c, _⟩ := chV_step hst.fr.1 h0
    have hx : x < 8 := by have := hst.to; have := hD.n; omega
    have hl : lfA D P (k + 1) = dec (lfA D P k) x := by simp only [lfA, hj, e, Int.toNat_natCast]
    rw [hl]
    exact ⟨i1.dec hx c, i2.dec hx⟩
/-- an append to an owned row of a list of operations: the row's block is the same, or a new one -/
theorem wpList_append_one {w : World} {P : Program} {ops : Array Oper} {rest : List Oper} {o : Oper} {a : Act} {Q : Exit → Act → World → Prop} (hgd : o.guard = none) (s x : Operand) (t : TypeId)
    (ho : o.op = .call { callee := .builtin .append, args := #[s, x], argTypes := #[t, t] })
    (base : Nat) (e : TypeId) (i : TypeInfo) (z : Value) (size bytes : Nat) (ht : P.underlying t = some (.slice e)) (hi : P.info? e = some i) (hz : i.zero = some z)
    (hsize : i.size = size) (hby : i.bytes = bytes) (hzs : z.cells.size = size) (hsz : 0 < size)
    (v : Value) (n : Nat) (xs : List Value) (hs : a.eval s = v) (hown : w.ownsRow base e size v n xs)
    (ad : Addr) (m c : Nat) (news : List Value) (hx : a.eval x = .slice (some ad) m c) (hl : news.length = m * size) (hnews : ∀ j u, news[j]? = some u → w.cell? (ad.add j) = some u) (h1 : ∀ u ∈ news, u.oneCell' = true)
    (hm : 0 < m) (h63 : n + m ≤ maxLen) (hbytes : (n + m) * bytes ≤ 140737488355328) (hbase : base ≤ w.heap.size)
    (h : ∀ v' w', w'.ownsRow base e size v' (n + m) (xs ++ news) → w.grownBy w' v.ownBlock → (∀ g, v'.ownBlock = some g → v.ownBlock = some g ∨ w.heap.size ≤ g) → wpList P ops Q rest (a.put o.dst v') w') : wpList P ops Q (o :: rest) a w :=
  wpList_plain hgd fun K hK => wp_append_one hgd s x t ho base e i z size bytes ht hi hz hsize hby hzs hsz v n xs hs hown ad m c news hx hl hnews h1 hm h63 hbytes hbase fun v' w' a b c => hK _ _ (h v' w' a b c)
/-- the state while the first way is laid -/
structure FirstS (w0 : World) (D : Ro) (P : Pr) (p q : Option Addr) (c d : Nat) (pv : Value) (fb mb : Nat) (W : World) (lb k : Nat) (v : Value) (wr : World) : Prop where
  f : Fin w0 D P p q c d pv fb mb wr
  g : Gr mb W wr
  a : ArAt wr lb (lfA D P k)
  o : wr.ownsRow (lb + 1) 3 1 v k (row1 (hrA D P) k)
  l : W.heap.size ≤ lb ∧ mb < W.heap.size ∧ fb < W.heap.size
theorem own_ne {w w' : World} {mb base : Nat} {e : TypeId} {v : Value} {n : Nat} {xs : List Value} (h : w.ownsRow base e 1 v n xs) (hg : Gr mb w w') (hb : mb < base) : w'.ownsRow base e 1 v n xs := by
  refine h.kept hg ?_
  cases hv : v.ownBlock with
  | none => exact .inl rfl
  | some g => exact .inr fun e => by have := (h.lt g hv).1; cases e; omega
set_option maxRecDepth 100000 in
set_option maxHeartbeats 4000000 in
theorem first_no (w0 : World) (D : Ro) (P : Pr) (p q : Option Addr) (c d gf : Nat) (caps : Array Value) (fb mb : Nat) (hD : OkP D) (hB : PrB D P) (hP : PrOk w0 D P gf caps) (hI : RoIn w0 w0.heap.size D p q) (hno : (best D P).no = true) (W : World) (hf : Fin w0 D P p q c d (.func (.func gf) #[] caps) fb mb W) :
    Calls Try.prog 65 #[.pointer (some ⟨fb, 0, none⟩)] W fun e W' => e = .returned (.tuple #[.slice none 0 0, .bool false]) ∧ Gr mb W W' ∧ MapOk D P W' mb := by
  have HC : Hid (∀ V, Fin w0 D P p q c d (.func (.func gf) #[] caps) fb mb V → Calls Try.prog 95 #[.pointer (some ⟨fb, 0, none⟩), .int .i64 0, .agg #[.int .i64 (lf0 D 0), .int .i64 (lf0 D 1), .int .i64 (lf0 D 2), .int .i64 (lf0 D 3), .int .i64 (lf0 D 4), .int .i64 (lf0 D 5), .int .i64 (lf0 D 6), .int .i64 (lf0 D 7)]] V fun e V' => e = .returned (.agg #[.int .i64 (best D P).h, .int .i64 (best D P).c, .bool (best D P).no]) ∧ Gr mb V V' ∧ MapOk D P V' mb) := fun V hV =>
    choose_any w0 D P p q c d gf caps fb mb hD hB hP hI D.m 0 (by omega) V (lf0 D) hV (Rm.all hD) (Str.zero D)
  have hm0 : 0 < D.m := by
    rcases Nat.eq_zero_or_pos D.m with h | h
    · unfold best at hno; rw [h] at hno; cases hno
    · exact h
  rw [hno] at HC
  obtain ⟨b, hb⟩ : ∃ b, best D P = b := ⟨_, rfl⟩
  rw [hb] at HC
  have HF := Lib.hid hf
  have HA := Lib.hid (fun (V : World) (hV : Fin w0 D P p q c d (.func (.func gf) #[] caps) fb mb V) => all_any w0 D P p q c d gf caps fb mb hD _ V hV hI)
  have jm : decide ((0 : Int) < (D.m : Int)) = true := by simp; omega
  have HN0 := Lib.hid hno
  clear hb hf hB hP hI hD hno
  go_enter Try.func65, Try.ntmps65
  go_wp2_with fail
  refine (HA.out _ HF.out).mono ?_
  rintro e w1 ⟨rfl, hb1⟩
  have HF1 := Lib.hid (HF.out.bel hb1); have HB1 := Lib.hid hb1
  obtain ⟨lb, hlb⟩ : ∃ lb, w1.heap.size = lb := ⟨_, rfl⟩
  obtain ⟨w2, hw2⟩ : ∃ w2, w1.alloc (Obj.cells #[.int .i64 (lf0 D 0), .int .i64 (lf0 D 1), .int .i64 (lf0 D 2), .int .i64 (lf0 D 3), .int .i64 (lf0 D 4), .int .i64 (lf0 D 5), .int .i64 (lf0 D 6), .int .i64 (lf0 D 7)] 106) = w2 := ⟨_, rfl⟩
  have a2 : ArAt w2 lb (lf0 D) := by rw [← hw2, ← hlb]; exact ArAt.new w1 (lf0 D)
  have b2 : Below w1.heap.size w1 w2 := by rw [← hw2]; exact bA (Below.refl _ _) _
  have HF2 := Lib.hid (HF1.out.bel b2); have HB2 := Lib.hid (bT HB1.out b2)
  have k1 := HF2.out.c1
  have HA2 := Lib.hid a2
  clear hb1 b2 a2
  go_wp2
  try rw [hlb]
  clear hw2 hlb k1
  go_loopw [2, 15] (fun v i wr => i = .int .i64 0 ∧ v = .slice none 0 0 ∧ wr = w2) (fun _ _ _ => 0)
  case atStart => exact ⟨rfl, rfl, rfl⟩
  case round =>
    obtain ⟨rfl, rfl, rfl⟩ := hrel
    have m0 := HA2.out.c 0 (by omega); have m1 := HA2.out.c 1 (by omega); have m2 := HA2.out.c 2 (by omega); have m3 := HA2.out.c 3 (by omega)
    have m4 := HA2.out.c 4 (by omega); have m5 := HA2.out.c 5 (by omega); have m6 := HA2.out.c 6 (by omega); have m7 := HA2.out.c 7 (by omega)
    go_wp2_with fail
    refine (HC.out _ HF2.out).mono ?_
    rintro e w3 ⟨rfl, hg3, hm3⟩
    have HG3 : Hid (Gr mb W w3) := (Gr.bel HB2.out).trans hg3
    have HM3 := Lib.hid hm3
    have HF3 := Lib.hid (HF2.out.gr hg3 hm3)
    clear hg3 hm3 m0 m1 m2 m3 m4 m5 m6 m7
    obtain ⟨cb, hcb⟩ : ∃ cb, w3.heap.size = cb := ⟨_, rfl⟩
    obtain ⟨w4, hw4⟩ : ∃ w4, w3.alloc (Obj.cells #[.int .i64 b.h, .int .i64 b.c, .bool true] 109) = w4 := ⟨_, rfl⟩
    have c4 : ChAt w4 cb ⟨b.h, b.c, true⟩ := by rw [← hw4, ← hcb]; exact ChAt.new w3 ⟨b.h, b.c, true⟩
    have b4 : Below w3.heap.size w3 w4 := by rw [← hw4]; exact bA (Below.refl _ _) _
    have c2 := c4.c2
    have HB4 := Lib.hid b4
    clear c4 b4
    go_wp2
    try rw [hcb]
    go_ret2
    exact ⟨rfl, HG3.out.trans (Gr.bel HB4.out), (HF3.out.bel HB4.out).m⟩
set_option maxRecDepth 100000 in
set_option maxHeartbeats 8000000 in
theorem first_ok (w0 : World) (D : Ro) (P : Pr) (p q : Option Addr) (c d gf : Nat) (caps : Array Value) (fb mb : Nat) (hD : OkP D) (hB : PrB D P) (hP : PrOk w0 D P gf caps) (hI : RoIn w0 w0.heap.size D p q) (hno : (best D P).no = false) (W : World) (hf : Fin w0 D P p q c d (.func (.func gf) #[] caps) fb mb W) :
    Calls Try.prog 65 #[.pointer (some ⟨fb, 0, none⟩)] W fun e W' => ∃ y c', e = .returned (.tuple #[.slice y D.m c', .bool true]) ∧ Gr mb W W' ∧ MapOk D P W' mb ∧ NumIn W' W'.heap.size D.m (hrA D P) y := by
  obtain ⟨i3, hi3, hz3, hz3', hz3''⟩ := info_parts infoI
  have I3 := Lib.hid hi3; have Z3 := Lib.hid hz3; have Z3' := Lib.hid hz3'; have Z3'' := Lib.hid hz3''; clear hi3 hz3 hz3' hz3''
  have HCH := Lib.hid (choose_any w0 D P p q c d gf caps fb mb hD hB hP hI)
  have HF := Lib.hid hf
  have HA := Lib.hid (fun (V : World) (hV : Fin w0 D P p q c d (.func (.func gf) #[] caps) fb mb V) => all_any w0 D P p q c d gf caps fb mb hD _ V hV hI)
  have HN0 := Lib.hid hno; have HD := Lib.hid hD
  have hm6 := hD.m; have hn8 := hD.n
  clear hf hB hP hI hD hno
  go_enter Try.func65, Try.ntmps65
  go_wp2_with fail
  refine (HA.out _ HF.out).mono ?_
  rintro e w1 ⟨rfl, hb1⟩
  have HF1 := Lib.hid (HF.out.bel hb1); have HB1 := Lib.hid hb1
  obtain ⟨lb, hlb⟩ : ∃ lb, w1.heap.size = lb := ⟨_, rfl⟩
  obtain ⟨w2, hw2⟩ : ∃ w2, w1.alloc (Obj.cells #[.int .i64 (lf0 D 0), .int .i64 (lf0 D 1), .int .i64 (lf0 D 2), .int .i64 (lf0 D 3), .int .i64 (lf0 D 4), .int .i64 (lf0 D 5), .int .i64 (lf0 D 6), .int .i64 (lf0 D 7)] 106) = w2 := ⟨_, rfl⟩
  have a2 : ArAt w2 lb (lf0 D) := by rw [← hw2, ← hlb]; exact ArAt.new w1 (lf0 D)
  have b2 : Below w1.heap.size w1 w2 := by rw [← hw2]; exact bA (Below.refl _ _) _
  have HF2 := Lib.hid (HF1.out.bel b2); have HB2 := Lib.hid (bT HB1.out b2)
  have k1 := HF2.out.c1
  have HFS : Hid (FirstS w0 D P p q c d (.func (.func gf) #[] caps) fb mb W lb 0 (.slice none 0 0) w2) := ⟨HF2.out, Gr.bel HB2.out, a2, World.ownsRow_nil _ _ _ 1, by have := HB1.out.size; omega, HF.out.m.lt, HF.out.ltf⟩
  clear hb1 b2 a2
  go_wp2
  try rw [hlb]
  clear hw2 hlb k1
  go_loopw [2, 15] (fun v i wr => ∃ k : Nat, i = .int .i64 (k : Int) ∧ k ≤ D.m ∧ FirstS w0 D P p q c d (.func (.func gf) #[] caps) fb mb W lb k v wr) (fun _ i _ => D.m - (intOf i).toNat)
  case atStart => exact ⟨0, rfl, Nat.zero_le _, HFS.out⟩
  case round =>
    clear HFS
    obtain ⟨k, rfl, hk, hfs⟩ := hrel
    have HS := Lib.hid hfs; clear hfs
    by_cases hlt : k < D.m
    · obtain ⟨L, hL⟩ : ∃ L, lfA D P k = L := ⟨_, rfl⟩
      obtain ⟨b, hb⟩ : ∃ b, chV D P (D.m - k) k L = b := ⟨_, rfl⟩
      have hok := lfA_ok HD.out HN0.out k hk
      have hst := hr_step HD.out HN0.out k hk
      obtain ⟨x, hx, hx8, hLx, hL2, hrx⟩ : ∃ x : Nat, b.h = x ∧ x < 8 ∧ L x ≠ 0 ∧ lfA D P (k + 1) = dec L x ∧ hrA D P k = x := by
        have hs := HD.out.st k hlt
        obtain ⟨j, hj⟩ : ∃ j, D.m - k = j + 1 := ⟨D.m - k - 1, by omega⟩
        rw [hj] at hst
        obtain ⟨x, e, a1, a2, _, cc, _⟩ := chV_step hs.fr.1 hst
        refine ⟨x, by rw [← hb, ← hL, hj]; exact e, by have := hs.to; omega, by rw [← hL]; exact cc, by simp only [lfA, hj, e, Int.toNat_natCast]; rw [hL], by unfold hrA; rw [hj]; exact e⟩
      rw [hL] at hok hst
      rw [hb] at hst
      have HCC : Hid (∀ V, Fin w0 D P p q c d (.func (.func gf) #[] caps) fb mb V → Calls Try.prog 95 #[.pointer (some ⟨fb, 0, none⟩), .int .i64 (k : Int), .agg #[.int .i64 (L 0), .int .i64 (L 1), .int .i64 (L 2), .int .i64 (L 3), .int .i64 (L 4), .int .i64 (L 5), .int .i64 (L 6), .int .i64 (L 7)]] V fun e V' => e = .returned (.agg #[.int .i64 (x : Int), .int .i64 b.c, .bool false]) ∧ Gr mb V V' ∧ MapOk D P V' mb) := fun V hV => by
        have := HCH.out (D.m - k) k (by omega) V L hV hok.1 hok.2
        rw [hb] at this
        simp only [chE] at this
        rw [hst, hx] at this
        exact this
      have hLb := hok.1.b x
      have ha := HS.out.a
      rw [hL] at ha
      have HAR := Lib.hid ha
      have m0 := ha.c 0 (by omega); have m1 := ha.c 1 (by omega); have m2 := ha.c 2 (by omega); have m3 := ha.c 3 (by omega)
      have m4 := ha.c 4 (by omega); have m5 := ha.c 5 (by omega); have m6 := ha.c 6 (by omega); have m7 := ha.c 7 (by omega)
      have HL2 := Lib.hid hL2; have HRX := Lib.hid hrx
      have jk : decide ((k : Int) < (D.m : Int)) = true := by simp; omega
      have hkm : (k : Int) < (D.m : Int) := by omega
      have ew : IntKind.i64.wrap (L x - 1) = L x - 1 := IntWalk.i64_in _ (by omega)
      have hx8i : (x : Int) < 8 := by omega
      obtain ⟨pr, cr, rfl, _⟩ := own_form HS.out.o
      clear hok hst hb hx ha hL hL2 hrx hLx hLb
      go_wp2_with fail
      refine (HCC.out _ HS.out.f).mono ?_
      rintro e w3 ⟨rfl, hg3, hm3⟩
      have hl := HS.out.l
      have hAR3 := HAR.out.blk (hg3.block lb HAR.out.lt (by simp; omega))
      have hO3 := own_ne HS.out.o hg3 (by omega)
      have hF3 := HS.out.f.gr hg3 hm3
      have hG3 : Gr mb W w3 := HS.out.g.trans hg3
      clear hg3 hm3 m0 m1 m2 m3 m4 m5 m6 m7
      obtain ⟨cb, hcb⟩ : ∃ cb, w3.heap.size = cb := ⟨_, rfl⟩
      obtain ⟨w3b, hw3b⟩ : ∃ w4, w3.alloc (Obj.cells #[.int .i64 (x : Int), .int .i64 b.c, .bool false] 109) = w4 := ⟨_, rfl⟩
      have c3b : ChAt w3b cb ⟨x, b.c, false⟩ := by rw [← hw3b, ← hcb]; exact ChAt.new w3 ⟨x, b.c, false⟩
      have b3b : Below w3.heap.size w3 w3b := by rw [← hw3b]; exact bA (Below.refl _ _) _
      obtain ⟨w4, hw4⟩ : ∃ w4, w3b.setCell ⟨cb, 2, none⟩ (.bool false) = w4 := ⟨_, rfl⟩
      have c4 : ChAt w4 cb ⟨x, b.c, false⟩ := by
        have h0 := c3b.c0; have h1 := c3b.c1; have h2 := c3b.c2; have hf := c3b.fz
        rw [← hw4]; clear hw4
        exact ⟨by simpa using c3b.lt, by go_simp, by go_simp, by go_simp, fun i => by have := c3b.fz i; simpa using this⟩
      have b4 : Below w3.heap.size w3 w4 := by rw [← hw4]; exact bS b3b (by simp; omega) _
      have z2 := c3b.c2; have zf := c3b.fz 2
      clear c3b b3b
      have HC4 := Lib.hid c4
      have HAR4 := Lib.hid (hAR3.blk (b4.block _ hAR3.lt)); have HO4 := Lib.hid (own_below hO3 b4); have HF4 := Lib.hid (hF3.bel b4); have HG4 : Hid (Gr mb W w4) := hG3.trans (Gr.bel b4)
      have HCB : Hid (lb < cb ∧ fb < cb ∧ mb < cb ∧ (∀ g, (Value.slice pr k cr).ownBlock = some g → g < cb)) := ⟨by rw [← hcb]; exact hAR3.lt, by rw [← hcb]; exact hF3.ltf, by rw [← hcb]; exact hF3.m.lt, fun g hg => by rw [← hcb]; exact (hO3.lt g hg).2⟩
      have c0 := c4.c0; have c2 := c4.c2
      clear c4 b4 hAR3 hO3 hF3 hG3 hl HAR
      go_wp2_with (at_builtin; go_loud (refine wpList_append_one rfl _ _ 22 rfl (lb + 1) 3 i3 _ 1 8 Try.underlying22 I3.out Z3.out Z3'.out Z3''.out rfl (by decide) _ _ _ rfl (HO4.out.alloc _) ⟨w4.heap.size, 0, none⟩ 1 1 [.int .i64 (x : Int)] rfl rfl (lit_cellsQ _ _ _ _ (by simp)) ?h1c (by omega) ?h2c ?h3c ?h4c ?_))
      case h1c => simp [Value.oneCell']
      case h2c => unfold maxLen; omega
      case h3c => omega
      case h4c => have := HAR4.out.lt; first | omega | (simp; omega)
      intro v' w6 hown hgrow hnew
      have hzz := HCB.out
      have hmbl := HS.out.l
      have hown0 : ∀ g, (Value.slice pr k cr).ownBlock = some g → lb + 1 ≤ g ∧ g < cb := fun g hg => ⟨(HO4.out.lt g hg).1, hzz.2.2.2 g hg⟩
      have hkeep : ∀ bb, bb < w4.heap.size → (bb ≤ lb ∨ cb ≤ bb) → w6.heap[bb]? = w4.heap[bb]? := fun bb h1 h2 => by
        have hal : (w4.alloc (Obj.cells #[.int .i64 (x : Int)] 3)).heap[bb]? = w4.heap[bb]? := (bA (Below.refl w4.heap.size w4) _).block bb h1
        refine (hgrow.block bb (by simp; omega) fun e => ?_).trans hal
        have := hown0 bb e.symm
        omega
      have hsz : w4.heap.size ≤ w6.heap.size := by have := hgrow.size; simp at this; omega
      have hc4 := HC4.out
      have hc6 := hc4.blk (hkeep cb hc4.lt (.inr (Nat.le_refl _)))
      have har6 := HAR4.out.blk (hkeep lb HAR4.out.lt (.inl (Nat.le_refl _)))
      have HG6 : Hid (Gr mb W w6) := by
        have h4 := HG4.out
        exact ⟨hgrow.os.trans h4.os, hgrow.tape.trans h4.tape, hgrow.output.trans h4.output, Nat.le_trans h4.size hsz, fun bb h1 h2 => (hkeep bb (Nat.lt_of_lt_of_le h1 h4.size) (.inl (by omega))).trans (h4.block bb h1 h2)⟩
      have HF6 := Lib.hid (HF.out.gr HG6.out (HF4.out.m.blk (hkeep mb HF4.out.m.lt (.inl (by omega)))))
      have r0 := hc6.c0
      have l0 := har6.c x hx8
      have lz := har6.fz
      have HAR6 := Lib.hid har6
      have HO6 := Lib.hid hown
      clear hc6 har6 hc4 hkeep hown0 hown hgrow hnew c0 c2 hzz hmbl hsz HCB
      obtain ⟨w7, hw7⟩ : ∃ w7, w6.setCell ⟨lb, x, none⟩ (.int .i64 (L x - 1)) = w7 := ⟨_, rfl⟩
      have HFS : Hid (FirstS w0 D P p q c d (.func (.func gf) #[] caps) fb mb W lb (k + 1) v' w7) := by
        have hmbl := HS.out.l
        rw [← hw7]
        refine ⟨HF6.out.set (by simp; omega) (by simp; omega) _, HG6.out.set (by simp; omega) _, ?_, ?_, hmbl⟩
        · rw [HL2.out]; exact HAR6.out.set hx8 _ rfl
        · have := own_setQ (i := x) (u := .int .i64 (L x - 1)) HO6.out (Nat.le_refl lb)
          simp only [row1]; rw [HRX.out]; exact this
      go_wp2
      try rw [hw7]
      go_roundw
      case rel => exact ⟨k + 1, by go_num, hlt, HFS.out⟩
      case measure => first | (simp [intOf]; done) | (simp [intOf]; omega)
    · have hke : k = D.m := by omega
      subst hke
      have jk : decide ((D.m : Int) < (D.m : Int)) = false := by simp
      obtain ⟨yv, cy, rfl, hy⟩ := num_own HS.out.o
      have HY := Lib.hid hy; clear hy
      go_wp2
      go_ret2
      exact ⟨_, _, rfl, HS.out.g, HS.out.f.m, HY.out⟩
end Go.Proofs.Ytegkgfiaegpihaa
