/- find: an arc by its label. -/
import Derived.Test.YtllmdfkiogmofaaGreatDoorJ15
import Derived.Test.YtllmdfkiogmofaaGreatDoorJ11
import Derived.Test.YtllmdfkiogmofaaGreatDoorWkC
namespace Go.Proofs.YtllmdfkiogmofaaGreatDoor
open Go.RowKit Nums Fm Pk Pm
set_option maxRecDepth 100000

set_option maxHeartbeats 1000000 in
theorem find1_any (a : RArc) (c : Int) (w : World) :
    Calls Tryz.prog 92 #[.agg #[.int .i32 a.label, .int .i64 a.out, .int .i64 a.to], .int .i32 c] w fun e w' => e = .returned (.int .i64 (cmpI a.label c)) ∧ Below w.heap.size w w' := by
  obtain ⟨W, hW⟩ : ∃ W, W = w.alloc (.cells #[.int .i32 a.label, .int .i64 a.out, .int .i64 a.to] 63) := ⟨_, rfl⟩
  have hb : Below w.heap.size w W := by rw [hW]; exact (Below.refl _ w).alloc (Nat.le_refl _) _
  have c0 : W.cell? ⟨w.heap.size, 0, none⟩ = some (.int .i32 a.label) := by rw [hW]; simp
  have HB : Hid (Below w.heap.size w W) := hb
  clear hb
  go_enter Tryz.func92, Tryz.ntmps92
  go_upto_region 1 with fail
  rw [← hW]
  clear hW
  go_wp2_with (go_at_call 93; refine (cmpR_any a.label c W).mono ?_; rintro e w1 ⟨rfl, hw1⟩; rw [hw1]; clear hw1)
  go_ret
  exact ⟨rfl, HB.out⟩
def lblAt (l : List RArc) (k : Nat) : Int := (l.getD k ⟨0, 0, 0⟩).label
theorem lblAt_of {l : List RArc} {k : Nat} {a : RArc} (h : l[k]? = some a) : lblAt l k = a.label := by unfold lblAt; rw [List.getD_eq_getElem?_getD, h]; rfl
theorem cmpI_lt {x y : Int} : cmpI x y < 0 ↔ x < y := by unfold cmpI; split <;> (try split) <;> omega
theorem cmpI_eq {x y : Int} : cmpI x y = 0 ↔ x = y := by unfold cmpI; split <;> (try split) <;> omega
def hitB (l : List RArc) (c : Int) (r : Nat) : Bool := decide (r < l.length ∧ lblAt l r = c)
theorem hit_yes {l : List RArc} {c : Int} {r : Nat} (h : r < l.length ∧ lblAt l r = c) : hitB l c r = true := decide_eq_true h
theorem hit_no {l : List RArc} {c : Int} {r : Nat} (h : ¬ (r < l.length ∧ lblAt l r = c)) : hitB l c r = false := decide_eq_false h
set_option maxHeartbeats 4000000 in
theorem bsf_any (E : Nat) (w : World) (l : List RArc) (va : Value) (c : Int) (h : ArcsAt E w va l) (hE : E ≤ w.heap.size) (hs : ∀ a b, a < b → b < l.length → lblAt l a < lblAt l b) (hl : l.length ≤ 1114112) :
    Calls Tryz.prog 91 #[va, .int .i32 c, .func (.func 92) #[] #[]] w fun e w' => ∃ r : Nat, e = .returned (.tuple #[.int .i64 (r : Int), .bool (hitB l c r)]) ∧ FirstAt l.length (fun k => decide (c ≤ lblAt l k)) r ∧ Below w.heap.size w w' := by
  obtain ⟨ad, cap, rfl⟩ := h.shape
  obtain ⟨n, hn⟩ : ∃ n, l.length = n := ⟨_, rfl⟩
  have HN : Hid (l.length = n) := hn
  have HA : Hid (ArcsAt E w (.slice ad n cap) l) := by have := h; rw [hn] at this; exact this
  have HS : Hid (∀ a b, a < b → b < n → lblAt l a < lblAt l b) := by rw [← hn]; exact hs
  rw [hn] at hl ⊢
  clear h hs hn
  go_enter Tryz.func91, Tryz.ntmps91
  go_wp2
  go_loopg [9, 10, 11] n (fun gm s5 s6 _ wr => ∃ (i j : Nat), s5 = .int .i64 i ∧ s6 = .int .i64 j ∧ i ≤ j ∧ j ≤ n ∧ j - i ≤ gm ∧ Hid ((∀ k, k < i → lblAt l k < c) ∧ ∀ k, j ≤ k → k < n → c ≤ lblAt l k) ∧ Hid (Below w.heap.size w wr))
  case atStart => exact ⟨0, n, rfl, rfl, Nat.zero_le _, Nat.le_refl _, by omega, ⟨fun k hk => by omega, fun k h1 h2 => by omega⟩, Below.refl _ _⟩
  case round =>
    obtain ⟨i, j, rfl, rfl, hij, hjn, hgm, HP, HB⟩ := hrel
    by_cases hlt : i < j
    · have hltz : (i : Int) < (j : Int) := by omega
      obtain ⟨h, hh⟩ : ∃ h, h = (i + j) / 2 := ⟨_, rfl⟩
      have h1 : i ≤ h := by omega
      have h2 : h < j := by omega
      have HHZ : Hid (((i : Int) + (j : Int)) / 2 = (h : Int)) := by show _ = _; omega
      obtain ⟨a, ha⟩ : ∃ a, l[h]? = some a := ⟨l[h]'(by have := HN.out; omega), List.getElem?_eq_getElem _⟩
      obtain ⟨g, off, hg0, hg, d0, d1, d2⟩ := (HA.out.below (HB.out.mono hE)).at ha
      subst hg0
      have HC : Hid (Calls Tryz.prog 92 #[.agg #[.int .i32 a.label, .int .i64 a.out, .int .i64 a.to], .int .i32 c] wr fun e w' => e = .returned (.int .i64 (cmpI a.label c)) ∧ Below wr.heap.size wr w') := find1_any a c wr
      have HLA : Hid (lblAt l h = a.label) := lblAt_of ha
      have hhn : (h : Int) < (n : Int) := by omega
      clear hh ha
      go_upto_region 5 with fail
      rw [HHZ.out]
      by_cases hc : a.label < c
      · have hcz : cmpI a.label c < 0 := cmpI_lt.2 hc
        have HNX : Hid ((∀ k, k < h + 1 → lblAt l k < c) ∧ ∀ k, j ≤ k → k < n → c ≤ lblAt l k) := ⟨fun k hk => (by
          by_cases e : k = h
          · rw [e, HLA.out]; exact hc
          · have := HS.out k h (by omega) (by omega); rw [HLA.out] at this; omega), HP.out.2⟩
        go_wp2_with (go_at_call 92; refine HC.out.mono ?_; rintro e w2 ⟨rfl, hb2⟩; have HB2 : Hid (Below w.heap.size w w2) := HB.out.trans (hb2.mono HB.out.size); clear hb2)
        go_roundg (j - (h + 1))
        case measure => omega
        case rel => exact ⟨h + 1, j, by go_num, by go_num, by omega, hjn, Nat.le_refl _, HNX, HB2⟩
      · have hcz : ¬ cmpI a.label c < 0 := fun e => hc (cmpI_lt.1 e)
        have HNX : Hid ((∀ k, k < i → lblAt l k < c) ∧ ∀ k, h ≤ k → k < n → c ≤ lblAt l k) := ⟨HP.out.1, fun k h3 h4 => (by
          by_cases e : k = h
          · rw [e, HLA.out]; omega
          · have := HS.out h k (by omega) h4; rw [HLA.out] at this; omega)⟩
        go_wp2_with (go_at_call 92; refine HC.out.mono ?_; rintro e w2 ⟨rfl, hb2⟩; have HB2 : Hid (Below w.heap.size w w2) := HB.out.trans (hb2.mono HB.out.size); clear hb2)
        go_roundg (h - i)
        case measure => omega
        case rel => exact ⟨i, h, by go_num, by go_num, h1, by omega, Nat.le_refl _, HNX, HB2⟩
    · have hltz : ¬ (i : Int) < (j : Int) := by omega
      have hji : j = i := by omega
      subst hji
      have HFA : Hid (FirstAt n (fun k => decide (c ≤ lblAt l k)) j) := ⟨hjn, fun k hk => decide_eq_false (by have := HP.out.1 k hk; omega), fun k h1 h2 => decide_eq_true (HP.out.2 k h1 h2)⟩
      by_cases hjl : j < n
      · have hjz : (j : Int) < (n : Int) := by omega
        obtain ⟨a, ha⟩ : ∃ a, l[j]? = some a := ⟨l[j]'(by have := HN.out; omega), List.getElem?_eq_getElem _⟩
        obtain ⟨g, off, hg0, hg, d0, d1, d2⟩ := (HA.out.below (HB.out.mono hE)).at ha
        subst hg0
        have HC : Hid (Calls Tryz.prog 92 #[.agg #[.int .i32 a.label, .int .i64 a.out, .int .i64 a.to], .int .i32 c] wr fun e w' => e = .returned (.int .i64 (cmpI a.label c)) ∧ Below wr.heap.size wr w') := find1_any a c wr
        have HLA : Hid (lblAt l j = a.label) := lblAt_of ha
        have HDC : Hid (hitB l c j = (cmpI a.label c == 0)) := by
          show _ = _
          by_cases e : a.label = c
          · rw [hit_yes ⟨by have := HN.out; omega, HLA.out.trans e⟩, cmpI_eq.2 e]; rfl
          · rw [hit_no (fun g => e (HLA.out.symm.trans g.2))]
            exact (beq_eq_false_iff_ne.2 (fun g => e (cmpI_eq.1 g))).symm
        clear ha
        go_wp2_with (go_at_call 92; refine HC.out.mono ?_; rintro e w2 ⟨rfl, hb2⟩; have HB2 : Hid (Below w.heap.size w w2) := HB.out.trans (hb2.mono HB.out.size); clear hb2)
        go_ret2
        exact ⟨j, by rw [HDC.out]; rfl, HFA.out, HB2.out⟩
      · have hjz : ¬ (j : Int) < (n : Int) := by omega
        go_wp2
        go_ret2
        have e : hitB l c j = false := hit_no (fun g => hjl (by have := HN.out; have := g.1; omega))
        exact ⟨j, by rw [e]; rfl, HFA.out, HB.out⟩
def arcV (a : RArc) : Value := .agg #[.int .i32 a.label, .int .i64 a.out, .int .i64 a.to]
def zA : RArc := ⟨0, 0, 0⟩
/-- The arc with a label. -/
def fa (l : List RArc) (c : Int) : Option RArc := l.find? fun a => a.label == c
theorem fa_first {l : List RArc} {c : Int} {r : Nat} (hs : ∀ a b, a < b → b < l.length → lblAt l a < lblAt l b) (h : FirstAt l.length (fun k => decide (c ≤ lblAt l k)) r) : (r < l.length ∧ lblAt l r = c → ∃ a, l[r]? = some a ∧ fa l c = some a) ∧ (¬ (r < l.length ∧ lblAt l r = c) → fa l c = none) := by
  constructor
  · rintro ⟨h1, h2⟩
    obtain ⟨a, ha⟩ : ∃ a, l[r]? = some a := ⟨l[r], List.getElem?_eq_getElem _⟩
    refine ⟨a, ha, ?_⟩
    unfold fa
    rw [List.find?_eq_some_iff_getElem]
    have e := lblAt_of ha
    obtain ⟨h3, h4⟩ := List.getElem?_eq_some_iff.1 ha
    refine ⟨by rw [beq_iff_eq]; omega, r, h3, h4, fun j hj => ?_⟩
    have h5 := h.lo j hj
    have h6 := of_decide_eq_false h5
    rw [lblAt_of (List.getElem?_eq_getElem (show j < l.length by omega))] at h6
    simp only [Bool.not_eq_true', beq_eq_false_iff_ne]
    omega
  · intro hn
    unfold fa
    rw [List.find?_eq_none]
    intro a ha he
    obtain ⟨j, hj, rfl⟩ := List.getElem_of_mem ha
    have e := lblAt_of (List.getElem?_eq_getElem hj)
    have he' : l[j].label = c := by simpa using he
    rcases Nat.lt_trichotomy j r with g | g | g
    · have := of_decide_eq_false (h.lo j g)
      omega
    · subst g
      exact hn ⟨hj, by omega⟩
    · have h1 := hs r j g hj
      have h2 := of_decide_eq_true (h.hi r (Nat.le_refl _) (by omega))
      omega
theorem fd_results {tmps : Array Value} {w : World} {qb : Nat} {a b c d : Value} (h2 : tmps.getD 4 undef = .pointer (some ⟨qb, 0, none⟩)) (h5 : tmps.getD 5 undef = d) (c0 : w.cell? ⟨qb, 0, none⟩ = some a) (c1 : w.cell? ⟨qb, 1, none⟩ = some b) (c2 : w.cell? ⟨qb, 2, none⟩ = some c) : (results Tryz.f59 tmps).run Tryz.prog w = .ok (.tuple #[.agg #[a, b, c], d]) w := by
  have h2' : tmps[4]?.getD undef = .pointer (some ⟨qb, 0, none⟩) := by simpa using h2
  have h5' : tmps[5]?.getD undef = d := by simpa using h5
  simp [results, Tryz.results59, go_sem, h2', h5', c0, c1, c2]
set_option maxHeartbeats 2000000 in
theorem find_any (E : Nat) (w : World) (l : List RArc) (va : Value) (c : Int) (h : ArcsAt E w va l) (hE : E ≤ w.heap.size) (hs : ∀ a b, a < b → b < l.length → lblAt l a < lblAt l b) (hl : l.length ≤ 1114112) :
    Calls Tryz.prog 59 #[va, .int .i32 c] w fun e w' => e = .returned (.tuple #[arcV ((fa l c).getD zA), .bool (fa l c).isSome]) ∧ Below w.heap.size w w' := by
  obtain ⟨ad, cap, rfl⟩ := h.shape
  obtain ⟨n, hn⟩ : ∃ n, l.length = n := ⟨_, rfl⟩
  obtain ⟨qb, hqb⟩ : ∃ qb, qb = w.heap.size := ⟨_, rfl⟩
  obtain ⟨W1, hW1⟩ : ∃ W1, W1 = w.alloc (.cells #[.int .i32 0, .int .i64 0, .int .i64 0] 63) := ⟨_, rfl⟩
  have hb1 : Below w.heap.size w W1 := by rw [hW1]; exact (Below.refl _ w).alloc (Nat.le_refl _) _
  have hn1 : W1.heap[qb]? = some (.cells #[.int .i32 0, .int .i64 0, .int .i64 0] 63) := by rw [hW1, hqb]; exact alloc_newP _ _
  have HA : Hid (ArcsAt E W1 (.slice ad l.length cap) l) := h.below (hb1.mono hE)
  have HBS : Hid (Calls Tryz.prog 91 #[.slice ad l.length cap, .int .i32 c, .func (.func 92) #[] #[]] W1 fun e w' => ∃ r : Nat, e = .returned (.tuple #[.int .i64 (r : Int), .bool (hitB l c r)]) ∧ ((r < l.length ∧ lblAt l r = c → ∃ a, l[r]? = some a ∧ fa l c = some a) ∧ (¬ (r < l.length ∧ lblAt l r = c) → fa l c = none)) ∧ Below W1.heap.size W1 w') := by
    refine (bsf_any E W1 l _ c (h.below (hb1.mono hE)) (Nat.le_trans hE hb1.size) hs hl).mono ?_
    rintro e w' ⟨r, rfl, h2, h3⟩
    exact ⟨r, rfl, fa_first hs h2, h3⟩
  have HB1 : Hid (Below w.heap.size w W1) := hb1
  have HN1 : Hid (W1.heap[qb]? = some (.cells #[.int .i32 0, .int .i64 0, .int .i64 0] 63)) := hn1
  have HN : Hid (l.length = n) := hn
  rw [hn] at HBS HA hl ⊢
  have HQ : Hid (qb = w.heap.size) := hqb
  clear h hb1 hn1 hs hn
  go_enter Tryz.func59, Tryz.ntmps59
  go_upto_region 1 with fail
  rw [← hqb, ← hW1]
  clear hqb hW1
  go_upto_region 2 with (go_at_call 91; refine HBS.out.mono ?_; rintro e w2 ⟨r, rfl, hfr, hb2⟩; have HFR : Hid _ := hfr; have HB2 : Hid (Below W1.heap.size W1 w2) := hb2; clear hfr hb2)
  have hk2 : w2.heap[qb]? = some (.cells #[.int .i32 0, .int .i64 0, .int .i64 0] 63) := (HB2.out.block qb (Array.getElem?_eq_some_iff.1 HN1.out).1).trans HN1.out
  have z0 : w2.cell? ⟨qb, 0, none⟩ = some (.int .i32 0) := by simp [World.cell?, hk2]
  have z1 : w2.cell? ⟨qb, 1, none⟩ = some (.int .i64 0) := by simp [World.cell?, hk2]
  have z2 : w2.cell? ⟨qb, 2, none⟩ = some (.int .i64 0) := by simp [World.cell?, hk2]
  have f0 : ∀ o, w2.frozen? ⟨qb, o, none⟩ = false := fun o => by simp [World.frozen?, hk2]
  have HK2 : Hid (w2.heap[qb]? = some (.cells #[.int .i32 0, .int .i64 0, .int .i64 0] 63)) := hk2
  have hbw2 : Below w.heap.size w w2 := HB1.out.trans (HB2.out.mono HB1.out.size)
  have HBW : Hid (Below w.heap.size w w2) := hbw2
  have HEND : Hid (∀ (a : RArc), ((((w2.setCell ⟨qb, 0, none⟩ (.int .i32 a.label)).setCell ⟨qb, 1, none⟩ (.int .i64 a.out)).setCell ⟨qb, 2, none⟩ (.int .i64 a.to)).heap[qb]? = some (.cells #[.int .i32 a.label, .int .i64 a.out, .int .i64 a.to] 63)) ∧ Below w.heap.size w (((w2.setCell ⟨qb, 0, none⟩ (.int .i32 a.label)).setCell ⟨qb, 1, none⟩ (.int .i64 a.out)).setCell ⟨qb, 2, none⟩ (.int .i64 a.to))) := fun a => by
    refine ⟨by rw [set_at (set_at (set_at hk2 _) _) _]; rfl, hbw2.trans (Upd.below (F := fun k => k = qb) (set_trans (F := fun k => k = qb) (set_trans (F := fun k => k = qb) (set_trans (F := fun k => k = qb) (Upd.refl _ _) _ rfl) _ rfl) _ rfl) hbw2.size (fun k e => by have := HQ.out; omega))⟩
  clear hk2 hbw2
  by_cases hyes : r < l.length ∧ lblAt l r = c
  · obtain ⟨a, ha, hfa⟩ := HFR.out.1 (by rw [← HN.out]; exact hyes)
    have HFA : Hid (fa l c = some a) := hfa
    have hrn : (r : Int) < (n : Int) := by have := hyes.1; have := HN.out; omega
    obtain ⟨g, off, hg0, hg, d0, d1, d2⟩ := (HA.out.below (HB2.out.mono (Nat.le_trans hE HB1.out.size))).at ha
    subst hg0
    rw [hit_yes hyes]
    clear hfa ha hyes
    go_wp2
    obtain ⟨e1, e2⟩ := HEND.out a
    generalize ((w2.setCell ⟨qb, 0, none⟩ (.int .i32 a.label)).setCell ⟨qb, 1, none⟩ (.int .i64 a.out)).setCell ⟨qb, 2, none⟩ (.int .i64 a.to) = W9 at e1 e2
    refine bodyPost_ret (fd_results (a := .int .i32 a.label) (b := .int .i64 a.out) (c := .int .i64 a.to) (d := .bool true) rfl rfl (by simp [World.cell?, e1]) (by simp [World.cell?, e1]) (by simp [World.cell?, e1])) rfl ?_
    exact ⟨by rw [HFA.out]; rfl, e2⟩
  · have hfa := HFR.out.2 (by rw [← HN.out]; exact hyes)
    have HFA : Hid (fa l c = none) := hfa
    rw [hit_no hyes]
    clear hfa hyes
    go_wp2
    obtain ⟨e1, e2⟩ := HEND.out zA
    simp only [zA] at e1 e2
    generalize ((w2.setCell ⟨qb, 0, none⟩ (.int .i32 0)).setCell ⟨qb, 1, none⟩ (.int .i64 0)).setCell ⟨qb, 2, none⟩ (.int .i64 0) = W9 at e1 e2
    refine bodyPost_ret (fd_results (a := .int .i32 0) (b := .int .i64 0) (c := .int .i64 0) (d := .bool false) rfl rfl (by simp [World.cell?, e1]) (by simp [World.cell?, e1]) (by simp [World.cell?, e1])) rfl ?_
    exact ⟨by rw [HFA.out]; rfl, e2⟩
end Go.Proofs.YtllmdfkiogmofaaGreatDoor
