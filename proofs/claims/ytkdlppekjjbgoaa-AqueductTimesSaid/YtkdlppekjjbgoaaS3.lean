/- Lines of an aqueduct: between how much flows past a point, and is lost, in the specification's words. -/
import Derived.Test.YtkdlppekjjbgoaaS2

import Derived.Deep.LoopGhost

set_option linter.unusedSimpArgs false

set_option linter.unusedVariables false

namespace Go.Proofs.Ytkdlppekjjbgoaa

open Go.RowKit

theorem mk_two' (w : World) (t : TypeId) (u v : Int) :
    ∃ (w1 : World) (x : Ext w1), w.alloc (Obj.cells #[Value.int .i64 u, Value.int .i64 v] t) = x.v ∧ Below w.heap.size w w1 ∧ TwoBox w1 w.heap.size u v := by
  obtain ⟨w1, x, h, hb, hz, f0, f1, f2⟩ := box_two w t u v
  obtain ⟨z, hz1⟩ := rebase w1
  exact ⟨w1, x, h, hb, by omega, by rw [hz1]; exact f0 z, by rw [hz1]; exact f1 z, fun i => by rw [hz1]; exact f2 z i⟩
theorem TwoBox.set0 {w : World} {b : Nat} {u v : Int} (h : TwoBox w b u v) (u' : Int) : TwoBox (w.setCell ⟨b, 0, none⟩ (.int .i64 u')) b u' v := by
  have h0 := h.c0
  have h1 := h.c1
  have hf := h.fz
  exact ⟨by simpa using h.lt, by go_simp, by go_simp, fun i => by go_simp⟩
theorem TwoBox.set1 {w : World} {b : Nat} {u v : Int} (h : TwoBox w b u v) (v' : Int) : TwoBox (w.setCell ⟨b, 1, none⟩ (.int .i64 v')) b u v' := by
  have h0 := h.c0
  have h1 := h.c1
  have hf := h.fz
  exact ⟨by simpa using h.lt, by go_simp, by go_simp, fun i => by go_simp⟩
set_option maxRecDepth 100000 in
set_option maxHeartbeats 8000000 in
theorem flowOf_any (D : Duct) (p q : Option Addr) (c d : Nat) (k : Nat) (w : World) (hn : D.n ≤ 40) (hm : D.m ≤ 40) (hk : k < D.n) (hok : D.ok = true) (hone : D.one = true) (hi : DuctIn w w.heap.size D p q) :
    Calls Try.prog 74 #[.agg #[.slice p D.n c, .slice q D.m d], .int .i64 k] w fun e w' => e = .returned (.agg #[.int .i64 (fl D k), .int .i64 (fh D k)]) ∧ Below w.heap.size w w' := by
  obtain ⟨pb, po, rfl, _, _⟩ := hi.pt (by omega)
  obtain ⟨w1, x1, e1, hb1, hl1⟩ := mk_line w (some ⟨pb, po, none⟩) q D.n D.m c d
  obtain ⟨w2, x2, e2, b2, t2⟩ := mk_two' x1.v 34 0 0
  obtain ⟨w3, x3, e3, b3, t3⟩ := mk_two' x2.v 34 (D.lo k) (D.hi k)
  have hb12 := bT x1.b b2
  have HRB : Hid (w.heap.size ≤ x1.v.heap.size) := Nat.le_trans hb1.size x1.b.size
  have HSB : Hid (w2.heap.size ≤ x2.v.heap.size) := x2.b.size
  have HB2 := Lib.hid (bT hb1 hb12)
  have HL := Lib.hid (hl1.bel hb12)
  have HI := Lib.hid ((hi.bel hb1).bel hb12)
  have HR := Lib.hid t2
  have HS := Lib.hid t3
  have HB3 := Lib.hid (bT x2.b b3)
  have HK := Lib.hid hk; have HON := Lib.hid hone
  have HF := Lib.hid (fl_fh hone hk)
  have HFB := Lib.hid (fl_bd hok hk); have HHB := Lib.hid (fh_bd hok hk)
  have HLF : Hid (D.lo k ≤ fl D k) := fl_ge (Nat.le_refl _) hk
  have HHF : Hid (fh D k ≤ D.hi k) := fh_le
  have HLO : Hid (0 ≤ D.lo k ∧ D.hi k ≤ 99) := by have := (D.ok_parts hok).2.2.2 k hk; exact ⟨by omega, by omega⟩
  have L0 : ∀ z : Ext w2, z.v.cell? ⟨w.heap.size, 0, none⟩ = some (.slice (some ⟨pb, po, none⟩) D.n c) := fun z => (HL.out.bel z.b).c0
  have C0 : ∀ z : Ext w2, z.v.cell? ⟨pb, po + k * 3, none⟩ = some (.int .i64 (D.lo k)) := fun z => (HI.out.bel z.b).lo' HK.out
  have C1 : ∀ z : Ext w2, z.v.cell? ⟨pb, po + k * 3 + 1, none⟩ = some (.int .i64 (D.hi k)) := fun z => (HI.out.bel z.b).hi' HK.out
  have j2 : (k : Int) < (D.n : Int) := by omega
  clear hb1 hl1 b2 t2 b3 t3 hb12 hi hk hone hok
  go_enter Try.func74, Try.ntmps74
  go_wp2
  clear C0 C1 L0 e1 e2 e3
  go_loopg [] ((fl D k - D.lo k).toNat) (fun gk wr => ∃ a, a + (gk : Int) = fl D k ∧ D.lo k ≤ a ∧ Below w2.heap.size w2 wr ∧ TwoBox wr x2.v.heap.size a (D.hi k))
  case atStart => exact ⟨D.lo k, by have := HLF.out; omega, Int.le_refl _, bT HB3.out x3.b, HS.out.bel x3.b⟩
  case round =>
    obtain ⟨a, hag, hla, hbb, htb⟩ := hrel
    have HBB := Lib.hid hbb; have HTB := Lib.hid htb; have HAG := Lib.hid hag; have HLA := Lib.hid hla
    clear hbb htb hag hla
    obtain ⟨z0, hz0⟩ := rebase wr
    rw [hz0]; clear hz0
    have L0 : ∀ z : Ext wr, z.v.cell? ⟨w.heap.size, 0, none⟩ = some (.slice (some ⟨pb, po, none⟩) D.n c) := fun z => (HL.out.bel (bT HBB.out z.b)).c0
    have L1 : ∀ z : Ext wr, z.v.cell? ⟨w.heap.size, 1, none⟩ = some (.slice q D.m d) := fun z => (HL.out.bel (bT HBB.out z.b)).c1
    have S0 : ∀ z : Ext wr, z.v.cell? ⟨x2.v.heap.size, 0, none⟩ = some (.int .i64 a) := fun z => (HTB.out.bel z.b).c0
    have Sf : ∀ (z : Ext wr) i, z.v.frozen? ⟨x2.v.heap.size, i, none⟩ = false := fun z => (HTB.out.bel z.b).fz
    by_cases hlt : a < fl D k
    · have hcan : canV D k a = false := by rw [can_iff HON.out HK.out]; simp; omega
      have HC := Lib.hid (show ∀ V, DuctIn V V.heap.size D (some ⟨pb, po, none⟩) q → Calls Try.prog 87 #[.agg #[.slice (some ⟨pb, po, none⟩) D.n c, .slice q D.m d], .int .i64 k, .int .i64 a] V fun e w' => e = .returned (.bool false) ∧ Below V.heap.size V w' from fun V h => by
        have := can_any D (some ⟨pb, po, none⟩) q c d k a V hn hm HK.out h
        rw [hcan] at this
        exact this)
      clear hcan
      have hw : IntKind.i64.wrap (a + 1) = a + 1 := by have := HLA.out; have := HLO.out; have := HFB.out; exact IntWalk.i64_in _ (by omega)
      go_wp2_with fail
      refine (quiet_x (HC.out _ (HI.out.bel (bT HBB.out (Ext.b _))))).mono ?_
      rintro e w' ⟨rfl, y, rfl⟩
      clear L0 L1
      go_wp2
      clear hw
      go_roundg (gk - 1)
      case measure => have := HAG.out; omega
      case rel => exact ⟨a + 1, by have := HAG.out; omega, by have := HLA.out; omega, bS (bT HBB.out y.b) HSB.out _, (HTB.out.bel y.b).set0 _⟩
    · have hae : a = fl D k := by have := HAG.out; omega
      subst hae
      have hcan : canV D k (fl D k) = true := by rw [can_iff HON.out HK.out]; simp; exact HF.out
      have HC := Lib.hid (show ∀ V, DuctIn V V.heap.size D (some ⟨pb, po, none⟩) q → Calls Try.prog 87 #[.agg #[.slice (some ⟨pb, po, none⟩) D.n c, .slice q D.m d], .int .i64 k, .int .i64 (fl D k)] V fun e w' => e = .returned (.bool true) ∧ Below V.heap.size V w' from fun V h => by
        have := can_any D (some ⟨pb, po, none⟩) q c d k (fl D k) V hn hm HK.out h
        rw [hcan] at this
        exact this)
      clear hcan hlt
      go_wp2_with fail
      refine (quiet_x (HC.out _ (HI.out.bel (bT HBB.out (Ext.b _))))).mono ?_
      rintro e w' ⟨rfl, y, rfl⟩
      clear L0 L1 S0 Sf
      go_wp2
      have HBY := Lib.hid (bT HBB.out y.b); have HTY := Lib.hid (HTB.out.bel y.b)
      go_loopg [] ((D.hi k - fh D k).toNat) (fun gk wr => ∃ a, a = fh D k + (gk : Int) ∧ a ≤ D.hi k ∧ Below w2.heap.size w2 wr ∧ TwoBox wr x2.v.heap.size (fl D k) a)
      case atStart => exact ⟨D.hi k, by have := HHF.out; omega, Int.le_refl _, HBY.out, HTY.out⟩
      case round =>
        clear HBB HTB HAG HLA HBY HTY
        obtain ⟨a, hag, hla, hbb, htb⟩ := hrel
        have HBB := Lib.hid hbb; have HTB := Lib.hid htb; have HAG := Lib.hid hag; have HLA := Lib.hid hla
        clear hbb htb hag hla
        obtain ⟨z0, hz0⟩ := rebase wr
        rw [hz0]; clear hz0
        have L0 : ∀ z : Ext wr, z.v.cell? ⟨w.heap.size, 0, none⟩ = some (.slice (some ⟨pb, po, none⟩) D.n c) := fun z => (HL.out.bel (bT HBB.out z.b)).c0
        have L1 : ∀ z : Ext wr, z.v.cell? ⟨w.heap.size, 1, none⟩ = some (.slice q D.m d) := fun z => (HL.out.bel (bT HBB.out z.b)).c1
        have S0 : ∀ z : Ext wr, z.v.cell? ⟨x2.v.heap.size, 0, none⟩ = some (.int .i64 (fl D k)) := fun z => (HTB.out.bel z.b).c0
        have S1 : ∀ z : Ext wr, z.v.cell? ⟨x2.v.heap.size, 1, none⟩ = some (.int .i64 a) := fun z => (HTB.out.bel z.b).c1
        have Sf : ∀ (z : Ext wr) i, z.v.frozen? ⟨x2.v.heap.size, i, none⟩ = false := fun z => (HTB.out.bel z.b).fz
        have R0 : ∀ z : Ext wr, z.v.cell? ⟨x1.v.heap.size, 0, none⟩ = some (.int .i64 0) := fun z => (HR.out.bel (bT HBB.out z.b)).c0
        have R1 : ∀ z : Ext wr, z.v.cell? ⟨x1.v.heap.size, 1, none⟩ = some (.int .i64 0) := fun z => (HR.out.bel (bT HBB.out z.b)).c1
        have Rf : ∀ (z : Ext wr) i, z.v.frozen? ⟨x1.v.heap.size, i, none⟩ = false := fun z => (HR.out.bel (bT HBB.out z.b)).fz
        by_cases hlt : fh D k < a
        · have hcan : canV D k a = false := by rw [can_iff HON.out HK.out]; simp; omega
          have HC := Lib.hid (show ∀ V, DuctIn V V.heap.size D (some ⟨pb, po, none⟩) q → Calls Try.prog 87 #[.agg #[.slice (some ⟨pb, po, none⟩) D.n c, .slice q D.m d], .int .i64 k, .int .i64 a] V fun e w' => e = .returned (.bool false) ∧ Below V.heap.size V w' from fun V h => by
            have := can_any D (some ⟨pb, po, none⟩) q c d k a V hn hm HK.out h
            rw [hcan] at this
            exact this)
          clear hcan
          have hw : IntKind.i64.wrap (a - 1) = a - 1 := by have := HLA.out; have := HLO.out; have := HHB.out; exact IntWalk.i64_in _ (by omega)
          go_wp2_with fail
          refine (quiet_x (HC.out _ (HI.out.bel (bT HBB.out (Ext.b _))))).mono ?_
          rintro e w' ⟨rfl, y, rfl⟩
          clear L0 L1 R0 R1 Rf
          go_wp2
          clear hw
          go_roundg (gk - 1)
          case measure => have := HAG.out; omega
          case rel => exact ⟨a - 1, by have := HAG.out; omega, by have := HLA.out; omega, bS (bT HBB.out y.b) HSB.out _, (HTB.out.bel y.b).set1 _⟩
        · have hae : a = fh D k := by have := HAG.out; omega
          subst hae
          have hcan : canV D k (fh D k) = true := by rw [can_iff HON.out HK.out]; simp; exact HF.out
          have HC := Lib.hid (show ∀ V, DuctIn V V.heap.size D (some ⟨pb, po, none⟩) q → Calls Try.prog 87 #[.agg #[.slice (some ⟨pb, po, none⟩) D.n c, .slice q D.m d], .int .i64 k, .int .i64 (fh D k)] V fun e w' => e = .returned (.bool true) ∧ Below V.heap.size V w' from fun V h => by
            have := can_any D (some ⟨pb, po, none⟩) q c d k (fh D k) V hn hm HK.out h
            rw [hcan] at this
            exact this)
          clear hcan hlt
          go_wp2_with fail
          refine (quiet_x (HC.out _ (HI.out.bel (bT HBB.out (Ext.b _))))).mono ?_
          rintro e w' ⟨rfl, y, rfl⟩
          clear L0 L1
          go_wp2
          refine bodyPost_ret (v := .agg #[.int .i64 (fl D k), .int .i64 (fh D k)]) (by simp [results, Try.f74, go_sem, R0, R1, Rf]) rfl ⟨rfl, ?_⟩
          exact bS (bS (bT HB2.out (bT HBB.out y.b)) HRB.out _) HRB.out _
end Go.Proofs.Ytkdlppekjjbgoaa
