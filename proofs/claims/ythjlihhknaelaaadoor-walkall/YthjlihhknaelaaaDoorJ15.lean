/- Texts that were written apart, joined. -/
import Derived.Test.YthjlihhknaelaaaDoorJ14
import Derived.Test.YthjlihhknaelaaaDoorJ10
import Derived.Test.YthjlihhknaelaaaDoorWkC
import Derived.Test.YthjlihhknaelaaaDoorJ8
import Derived.Test.YthjlihhknaelaaaDoorJ6
import Derived.Test.YthjlihhknaelaaaDoorJ4
import Derived.Deep.RegionHeld3
import Derived.Deep.DrawnRows
/- find: an arc by its label. -/
namespace Go.Proofs.YthjlihhknaelaaaDoor
open Go.RowKit Nums Fm Pk Pm
set_option maxRecDepth 100000

set_option maxHeartbeats 1000000 in
theorem find1_any (a : RArc) (c : Int) (w : World) :
    Calls Tryd.prog 51 #[.agg #[.int .i32 a.label, .int .i64 a.out, .int .i64 a.to], .int .i32 c] w fun e w' => e = .returned (.int .i64 (cmpI a.label c)) ∧ Below w.heap.size w w' := by
  obtain ⟨W, hW⟩ : ∃ W, W = w.alloc (.cells #[.int .i32 a.label, .int .i64 a.out, .int .i64 a.to] 58) := ⟨_, rfl⟩
  have hb : Below w.heap.size w W := by rw [hW]; exact (Below.refl _ w).alloc (Nat.le_refl _) _
  have c0 : W.cell? ⟨w.heap.size, 0, none⟩ = some (.int .i32 a.label) := by rw [hW]; simp
  have HB : Hid (Below w.heap.size w W) := hb
  clear hb
  go_enter Tryd.func51, Tryd.ntmps51
  go_upto_region 1 with fail
  rw [← hW]
  clear hW
  go_wp2_with (go_at_call 52; refine (cmpR_any a.label c W).mono ?_; rintro e w1 ⟨rfl, hw1⟩; rw [hw1]; clear hw1)
  go_ret
  exact ⟨rfl, HB.out⟩
def lblAt (l : List RArc) (k : Nat) : Int := (l.getD k ⟨0, 0, 0⟩).label
theorem lblAt_of {l : List RArc} {k : Nat} {a : RArc} (h : l[k]? = some a) : lblAt l k = a.label := by unfold lblAt; rw [List.getD_eq_getElem?_getD, h]; rfl
theorem cmpI_lt {x y : Int} : cmpI x y < 0 ↔ x < y := by unfold cmpI; split <;> (try split) <;> omega
theorem cmpI_eq {x y : Int} : cmpI x y = 0 ↔ x = y := by unfold cmpI; split <;> (try split) <;> omega
def hitB (l : List RArc) (c : Int) (r : Nat) : Bool := decide (r < l.length ∧ lblAt l r = c)
theorem hit_yes {l : List RArc} {c : Int} {r : Nat} (h : r < l.length ∧ lblAt l r = c) : hitB l c r = true := decide_eq_true h
theorem hit_no {l : List RArc} {c : Int} {r : Nat} (h : ¬ (r < l.length ∧ lblAt l r = c)) : hitB l c r = false := decide_eq_false h
set_option maxHeartbeats 4000000 in
theorem bsf_any (E : Nat) (w : World) (l : List RArc) (va : Value) (c : Int) (h : ArcsAt E w va l) (hE : E ≤ w.heap.size) (hs : ∀ a b, a < b → b < l.length → lblAt l a < lblAt l b) (hl : l.length ≤ 1114112) :
    Calls Tryd.prog 50 #[va, .int .i32 c, .func (.func 51) #[] #[]] w fun e w' => ∃ r : Nat, e = .returned (.tuple #[.int .i64 (r : Int), .bool (hitB l c r)]) ∧ FirstAt l.length (fun k => decide (c ≤ lblAt l k)) r ∧ Below w.heap.size w w' := by
  obtain ⟨ad, cap, rfl⟩ := h.shape
  obtain ⟨n, hn⟩ : ∃ n, l.length = n := ⟨_, rfl⟩
  have HN : Hid (l.length = n) := hn
  have HA : Hid (ArcsAt E w (.slice ad n cap) l) := by have := h; rw [hn] at this; exact this
  have HS : Hid (∀ a b, a < b → b < n → lblAt l a < lblAt l b) := by rw [← hn]; exact hs
  rw [hn] at hl ⊢
  clear h hs hn
  go_enter Tryd.func50, Tryd.ntmps50
  go_wp2
  go_loopg [9, 10, 11] n (fun gm s5 s6 _ wr => ∃ (i j : Nat), s5 = .int .i64 i ∧ s6 = .int .i64 j ∧ i ≤ j ∧ j ≤ n ∧ j - i ≤ gm ∧ Hid ((∀ k, k < i → lblAt l k < c) ∧ ∀ k, j ≤ k → k < n → c ≤ lblAt l k) ∧ Hid (Below w.heap.size w wr))
  case atStart => exact ⟨0, n, rfl, rfl, Nat.zero_le _, Nat.le_refl _, by omega, ⟨fun k hk => by omega, fun k h1 h2 => by omega⟩, Below.refl _ _⟩
  case round =>
    obtain ⟨i, j, rfl, rfl, hij, hjn, hgm, HP, HB⟩ := hrel
    by_cases hlt : i < j
    · have hltz : (i : Int) < (j : Int) := by omega
      obtain ⟨h, hh⟩ : ∃ h, h = (i + j) / 2 := ⟨_, rfl⟩
      have h1 : i ≤ h := by omega
      have h2 : h < j := by omega
      have HHZ : Hid (((i : Int) + (j : Int)) / 2 = (h : Int)) := by show _ = _; omega
      obtain ⟨a, ha⟩ : ∃ a, l[h]? = some a := ⟨l[h]'(by have := HN.out; omega), List.getElem?_eq_getElem _⟩
      obtain ⟨g, off, hg0, hg, d0, d1, d2⟩ := (HA.out.below (HB.out.mono hE)).at ha
      subst hg0
      have HC : Hid (Calls Tryd.prog 51 #[.agg #[.int .i32 a.label, .int .i64 a.out, .int .i64 a.to], .int .i32 c] wr fun e w' => e = .returned (.int .i64 (cmpI a.label c)) ∧ Below wr.heap.size wr w') := find1_any a c wr
      have HLA : Hid (lblAt l h = a.label) := lblAt_of ha
      have hhn : (h : Int) < (n : Int) := by omega
      clear hh ha
      go_upto_region 5 with fail
      rw [HHZ.out]
      by_cases hc : a.label < c
      · have hcz : cmpI a.label c < 0 := cmpI_lt.2 hc
        have HNX : Hid ((∀ k, k < h + 1 → lblAt l k < c) ∧ ∀ k, j ≤ k → k < n → c ≤ lblAt l k) := ⟨fun k hk => (by
          by_cases e : k = h
          · rw [e, HLA.out]; exact hc
          · have := HS.out k h (by omega) (by omega); rw [HLA.out] at this; omega), HP.out.2⟩
        go_wp2_with (go_at_call 51; refine HC.out.mono ?_; rintro e w2 ⟨rfl, hb2⟩; have HB2 : Hid (Below w.heap.size w w2) := HB.out.trans (hb2.mono HB.out.size); clear hb2)
        go_roundg (j - (h + 1))
        case measure => omega
        case rel => exact ⟨h + 1, j, by go_num, by go_num, by omega, hjn, Nat.le_refl _, HNX, HB2⟩
      · have hcz : ¬ cmpI a.label c < 0 := fun e => hc (cmpI_lt.1 e)
        have HNX : Hid ((∀ k, k < i → lblAt l k < c) ∧ ∀ k, h ≤ k → k < n → c ≤ lblAt l k) := ⟨HP.out.1, fun k h3 h4 => (by
          by_cases e : k = h
          · rw [e, HLA.out]; omega
          · have := HS.out h k (by omega) h4; rw [HLA.out] at this; omega)⟩
        go_wp2_with (go_at_call 51; refine HC.out.mono ?_; rintro e w2 ⟨rfl, hb2⟩; have HB2 : Hid (Below w.heap.size w w2) := HB.out.trans (hb2.mono HB.out.size); clear hb2)
        go_roundg (h - i)
        case measure => omega
        case rel => exact ⟨i, h, by go_num, by go_num, h1, by omega, Nat.le_refl _, HNX, HB2⟩
    · have hltz : ¬ (i : Int) < (j : Int) := by omega
      have hji : j = i := by omega
      subst hji
      have HFA : Hid (FirstAt n (fun k => decide (c ≤ lblAt l k)) j) := ⟨hjn, fun k hk => decide_eq_false (by have := HP.out.1 k hk; omega), fun k h1 h2 => decide_eq_true (HP.out.2 k h1 h2)⟩
      by_cases hjl : j < n
      · have hjz : (j : Int) < (n : Int) := by omega
        obtain ⟨a, ha⟩ : ∃ a, l[j]? = some a := ⟨l[j]'(by have := HN.out; omega), List.getElem?_eq_getElem _⟩
        obtain ⟨g, off, hg0, hg, d0, d1, d2⟩ := (HA.out.below (HB.out.mono hE)).at ha
        subst hg0
        have HC : Hid (Calls Tryd.prog 51 #[.agg #[.int .i32 a.label, .int .i64 a.out, .int .i64 a.to], .int .i32 c] wr fun e w' => e = .returned (.int .i64 (cmpI a.label c)) ∧ Below wr.heap.size wr w') := find1_any a c wr
        have HLA : Hid (lblAt l j = a.label) := lblAt_of ha
        have HDC : Hid (hitB l c j = (cmpI a.label c == 0)) := by
          show _ = _
          by_cases e : a.label = c
          · rw [hit_yes ⟨by have := HN.out; omega, HLA.out.trans e⟩, cmpI_eq.2 e]; rfl
          · rw [hit_no (fun g => e (HLA.out.symm.trans g.2))]
            exact (beq_eq_false_iff_ne.2 (fun g => e (cmpI_eq.1 g))).symm
        clear ha
        go_wp2_with (go_at_call 51; refine HC.out.mono ?_; rintro e w2 ⟨rfl, hb2⟩; have HB2 : Hid (Below w.heap.size w w2) := HB.out.trans (hb2.mono HB.out.size); clear hb2)
        go_ret2
        exact ⟨j, by rw [HDC.out]; rfl, HFA.out, HB2.out⟩
      · have hjz : ¬ (j : Int) < (n : Int) := by omega
        go_wp2
        go_ret2
        have e : hitB l c j = false := hit_no (fun g => hjl (by have := HN.out; have := g.1; omega))
        exact ⟨j, by rw [e]; rfl, HFA.out, HB.out⟩
def arcV (a : RArc) : Value := .agg #[.int .i32 a.label, .int .i64 a.out, .int .i64 a.to]
def zA : RArc := ⟨0, 0, 0⟩
/-- The arc with a label. -/
def fa (l : List RArc) (c : Int) : Option RArc := l.find? fun a => a.label == c
theorem fa_first {l : List RArc} {c : Int} {r : Nat} (hs : ∀ a b, a < b → b < l.length → lblAt l a < lblAt l b) (h : FirstAt l.length (fun k => decide (c ≤ lblAt l k)) r) : (r < l.length ∧ lblAt l r = c → ∃ a, l[r]? = some a ∧ fa l c = some a) ∧ (¬ (r < l.length ∧ lblAt l r = c) → fa l c = none) := by
  constructor
  · rintro ⟨h1, h2⟩
    obtain ⟨a, ha⟩ : ∃ a, l[r]? = some a := ⟨l[r], List.getElem?_eq_getElem _⟩
    refine ⟨a, ha, ?_⟩
    unfold fa
    rw [List.find?_eq_some_iff_getElem]
    have e := lblAt_of ha
    obtain ⟨h3, h4⟩ := List.getElem?_eq_some_iff.1 ha
    refine ⟨by rw [beq_iff_eq]; omega, r, h3, h4, fun j hj => ?_⟩
    have h5 := h.lo j hj
    have h6 := of_decide_eq_false h5
    rw [lblAt_of (List.getElem?_eq_getElem (show j < l.length by omega))] at h6
    simp only [Bool.not_eq_true', beq_eq_false_iff_ne]
    omega
  · intro hn
    unfold fa
    rw [List.find?_eq_none]
    intro a ha he
    obtain ⟨j, hj, rfl⟩ := List.getElem_of_mem ha
    have e := lblAt_of (List.getElem?_eq_getElem hj)
    have he' : l[j].label = c := by simpa using he
    rcases Nat.lt_trichotomy j r with g | g | g
    · have := of_decide_eq_false (h.lo j g)
      omega
    · subst g
      exact hn ⟨hj, by omega⟩
    · have h1 := hs r j g hj
      have h2 := of_decide_eq_true (h.hi r (Nat.le_refl _) (by omega))
      omega
theorem fd_results {tmps : Array Value} {w : World} {qb : Nat} {a b c d : Value} (h2 : tmps.getD 4 undef = .pointer (some ⟨qb, 0, none⟩)) (h5 : tmps.getD 5 undef = d) (c0 : w.cell? ⟨qb, 0, none⟩ = some a) (c1 : w.cell? ⟨qb, 1, none⟩ = some b) (c2 : w.cell? ⟨qb, 2, none⟩ = some c) : (results Tryd.f33 tmps).run Tryd.prog w = .ok (.tuple #[.agg #[a, b, c], d]) w := by
  have h2' : tmps[4]?.getD undef = .pointer (some ⟨qb, 0, none⟩) := by simpa using h2
  have h5' : tmps[5]?.getD undef = d := by simpa using h5
  simp [results, Tryd.results33, go_sem, h2', h5', c0, c1, c2]
set_option maxHeartbeats 2000000 in
theorem find_any (E : Nat) (w : World) (l : List RArc) (va : Value) (c : Int) (h : ArcsAt E w va l) (hE : E ≤ w.heap.size) (hs : ∀ a b, a < b → b < l.length → lblAt l a < lblAt l b) (hl : l.length ≤ 1114112) :
    Calls Tryd.prog 33 #[va, .int .i32 c] w fun e w' => e = .returned (.tuple #[arcV ((fa l c).getD zA), .bool (fa l c).isSome]) ∧ Below w.heap.size w w' := by
  obtain ⟨ad, cap, rfl⟩ := h.shape
  obtain ⟨n, hn⟩ : ∃ n, l.length = n := ⟨_, rfl⟩
  obtain ⟨qb, hqb⟩ : ∃ qb, qb = w.heap.size := ⟨_, rfl⟩
  obtain ⟨W1, hW1⟩ : ∃ W1, W1 = w.alloc (.cells #[.int .i32 0, .int .i64 0, .int .i64 0] 58) := ⟨_, rfl⟩
  have hb1 : Below w.heap.size w W1 := by rw [hW1]; exact (Below.refl _ w).alloc (Nat.le_refl _) _
  have hn1 : W1.heap[qb]? = some (.cells #[.int .i32 0, .int .i64 0, .int .i64 0] 58) := by rw [hW1, hqb]; exact alloc_newP _ _
  have HA : Hid (ArcsAt E W1 (.slice ad l.length cap) l) := h.below (hb1.mono hE)
  have HBS : Hid (Calls Tryd.prog 50 #[.slice ad l.length cap, .int .i32 c, .func (.func 51) #[] #[]] W1 fun e w' => ∃ r : Nat, e = .returned (.tuple #[.int .i64 (r : Int), .bool (hitB l c r)]) ∧ ((r < l.length ∧ lblAt l r = c → ∃ a, l[r]? = some a ∧ fa l c = some a) ∧ (¬ (r < l.length ∧ lblAt l r = c) → fa l c = none)) ∧ Below W1.heap.size W1 w') := by
    refine (bsf_any E W1 l _ c (h.below (hb1.mono hE)) (Nat.le_trans hE hb1.size) hs hl).mono ?_
    rintro e w' ⟨r, rfl, h2, h3⟩
    exact ⟨r, rfl, fa_first hs h2, h3⟩
  have HB1 : Hid (Below w.heap.size w W1) := hb1
  have HN1 : Hid (W1.heap[qb]? = some (.cells #[.int .i32 0, .int .i64 0, .int .i64 0] 58)) := hn1
  have HN : Hid (l.length = n) := hn
  rw [hn] at HBS HA hl ⊢
  have HQ : Hid (qb = w.heap.size) := hqb
  clear h hb1 hn1 hs hn
  go_enter Tryd.func33, Tryd.ntmps33
  go_upto_region 1 with fail
  rw [← hqb, ← hW1]
  clear hqb hW1
  go_upto_region 2 with (go_at_call 50; refine HBS.out.mono ?_; rintro e w2 ⟨r, rfl, hfr, hb2⟩; have HFR : Hid _ := hfr; have HB2 : Hid (Below W1.heap.size W1 w2) := hb2; clear hfr hb2)
  have hk2 : w2.heap[qb]? = some (.cells #[.int .i32 0, .int .i64 0, .int .i64 0] 58) := (HB2.out.block qb (Array.getElem?_eq_some_iff.1 HN1.out).1).trans HN1.out
  have z0 : w2.cell? ⟨qb, 0, none⟩ = some (.int .i32 0) := by simp [World.cell?, hk2]
  have z1 : w2.cell? ⟨qb, 1, none⟩ = some (.int .i64 0) := by simp [World.cell?, hk2]
  have z2 : w2.cell? ⟨qb, 2, none⟩ = some (.int .i64 0) := by simp [World.cell?, hk2]
  have f0 : ∀ o, w2.frozen? ⟨qb, o, none⟩ = false := fun o => by simp [World.frozen?, hk2]
  have HK2 : Hid (w2.heap[qb]? = some (.cells #[.int .i32 0, .int .i64 0, .int .i64 0] 58)) := hk2
  have hbw2 : Below w.heap.size w w2 := HB1.out.trans (HB2.out.mono HB1.out.size)
  have HBW : Hid (Below w.heap.size w w2) := hbw2
  have HEND : Hid (∀ (a : RArc), ((((w2.setCell ⟨qb, 0, none⟩ (.int .i32 a.label)).setCell ⟨qb, 1, none⟩ (.int .i64 a.out)).setCell ⟨qb, 2, none⟩ (.int .i64 a.to)).heap[qb]? = some (.cells #[.int .i32 a.label, .int .i64 a.out, .int .i64 a.to] 58)) ∧ Below w.heap.size w (((w2.setCell ⟨qb, 0, none⟩ (.int .i32 a.label)).setCell ⟨qb, 1, none⟩ (.int .i64 a.out)).setCell ⟨qb, 2, none⟩ (.int .i64 a.to))) := fun a => by
    refine ⟨by rw [set_at (set_at (set_at hk2 _) _) _]; rfl, hbw2.trans (Upd.below (F := fun k => k = qb) (set_trans (F := fun k => k = qb) (set_trans (F := fun k => k = qb) (set_trans (F := fun k => k = qb) (Upd.refl _ _) _ rfl) _ rfl) _ rfl) hbw2.size (fun k e => by have := HQ.out; omega))⟩
  clear hk2 hbw2
  by_cases hyes : r < l.length ∧ lblAt l r = c
  · obtain ⟨a, ha, hfa⟩ := HFR.out.1 (by rw [← HN.out]; exact hyes)
    have HFA : Hid (fa l c = some a) := hfa
    have hrn : (r : Int) < (n : Int) := by have := hyes.1; have := HN.out; omega
    obtain ⟨g, off, hg0, hg, d0, d1, d2⟩ := (HA.out.below (HB2.out.mono (Nat.le_trans hE HB1.out.size))).at ha
    subst hg0
    rw [hit_yes hyes]
    clear hfa ha hyes
    go_wp2
    obtain ⟨e1, e2⟩ := HEND.out a
    generalize ((w2.setCell ⟨qb, 0, none⟩ (.int .i32 a.label)).setCell ⟨qb, 1, none⟩ (.int .i64 a.out)).setCell ⟨qb, 2, none⟩ (.int .i64 a.to) = W9 at e1 e2
    refine bodyPost_ret (fd_results (a := .int .i32 a.label) (b := .int .i64 a.out) (c := .int .i64 a.to) (d := .bool true) rfl rfl (by simp [World.cell?, e1]) (by simp [World.cell?, e1]) (by simp [World.cell?, e1])) rfl ?_
    exact ⟨by rw [HFA.out]; rfl, e2⟩
  · have hfa := HFR.out.2 (by rw [← HN.out]; exact hyes)
    have HFA : Hid (fa l c = none) := hfa
    rw [hit_no hyes]
    clear hfa hyes
    go_wp2
    obtain ⟨e1, e2⟩ := HEND.out zA
    simp only [zA] at e1 e2
    generalize ((w2.setCell ⟨qb, 0, none⟩ (.int .i32 0)).setCell ⟨qb, 1, none⟩ (.int .i64 0)).setCell ⟨qb, 2, none⟩ (.int .i64 0) = W9 at e1 e2
    refine bodyPost_ret (fd_results (a := .int .i32 0) (b := .int .i64 0) (c := .int .i64 0) (d := .bool false) rfl rfl (by simp [World.cell?, e1]) (by simp [World.cell?, e1]) (by simp [World.cell?, e1])) rfl ?_
    exact ⟨by rw [HFA.out]; rfl, e2⟩
end Go.Proofs.YthjlihhknaelaaaDoor

/- Cut: what the seat's translation lacks is left out. -/
/- The reference's SameState and Same. -/
namespace Go.Proofs.YthjlihhknaelaaaDoor
open Go.RowKit Nums Fm
set_option maxRecDepth 100000
theorem StRow.at {B : Nat} {w : World} {vs : Value} {b : List St} (h : StRow B w vs b) (h0 : 0 < b.length) : ∃ g cap, vs = .slice (some ⟨g, 0, none⟩) b.length cap ∧ g < w.heap.size ∧ ∀ (i : Nat) (s : St), b[i]? = some s → ∃ va, AOwn B w va s.arcs ∧ w.cell? ⟨g, i * 3, none⟩ = some (.bool s.final) ∧ w.cell? ⟨g, i * 3 + 1, none⟩ = some (.int .i64 s.out) ∧ w.cell? ⟨g, i * 3 + 2, none⟩ = some va := by
  obtain ⟨xss, h1, h2, h3⟩ := h
  obtain ⟨g, cap, rfl, hg, _, _, hc⟩ := h1.cell (by omega)
  refine ⟨g, cap, by rw [h2], hg, fun i s hi => ?_⟩
  obtain ⟨va, h4, h5⟩ := h3 i s hi
  exact ⟨va, h5, hc i 0 _ _ h4 rfl, hc i 1 _ _ h4 rfl, hc i 2 _ _ h4 rfl⟩
theorem StRow.shape {B : Nat} {w : World} {vs : Value} {b : List St} (h : StRow B w vs b) : ∃ ad cap, vs = .slice ad b.length cap := by
  obtain ⟨xss, h1, h2, _⟩ := h
  obtain ⟨ad, cap, h3, _⟩ := h1.shape
  exact ⟨ad, cap, by rw [h3, h2]⟩
theorem GOwn.small {T : TypeId} {k B : Nat} {w : World} {v : Value} {xss : List (List Value)} (h : GOwn T k B w v xss) : xss.length ≤ maxLen := by
  obtain ⟨_, hl, ⟨_, h0⟩ | ⟨g, cap, cur, _, _, _, h3, h4, _⟩⟩ := h
  · omega
  · omega

theorem take_alike {α : Type} {l m : List α} {k : Nat} {x y : α} (h : l.take k = m.take k) (hx : l[k]? = some x) (hy : m[k]? = some y) (e : x = y) : l.take (k + 1) = m.take (k + 1) := by
  obtain ⟨h1, e1⟩ := List.getElem?_eq_some_iff.1 hx
  obtain ⟨h2, e2⟩ := List.getElem?_eq_some_iff.1 hy
  rw [List.take_succ_eq_append_getElem h1, List.take_succ_eq_append_getElem h2, e1, e2, h, e]
set_option maxHeartbeats 4000000 in
theorem sameState_any (B B' : Nat) (w : World) (s t : St) (va vb : Value) (ha : AOwn B w va s.arcs) (hb : AOwn B' w vb t.arcs) :
    Calls Tryd.prog 26 #[.agg #[.bool s.final, .int .i64 s.out, va], .agg #[.bool t.final, .int .i64 t.out, vb]] w fun e w' => e = .returned (.bool (decide (s = t))) ∧ Below w.heap.size w w' := by
  obtain ⟨ad1, cap1, rfl, _⟩ := GOwn.shape ha
  obtain ⟨ad2, cap2, rfl, _⟩ := GOwn.shape hb
  rw [List.length_map] at ha hb ⊢
  rw [List.length_map]
  obtain ⟨n1, hn1⟩ : ∃ n, s.arcs.length = n := ⟨_, rfl⟩
  obtain ⟨n2, hn2⟩ : ∃ n, t.arcs.length = n := ⟨_, rfl⟩
  have HN : Hid (s.arcs.length = n1 ∧ t.arcs.length = n2) := ⟨hn1, hn2⟩
  have hm1 : n1 ≤ 9223372036854775807 := by have := GOwn.small ha; rw [List.length_map, hn1] at this; simp only [maxLen] at this; omega
  have hm2 : n2 ≤ 9223372036854775807 := by have := GOwn.small hb; rw [List.length_map, hn2] at this; simp only [maxLen] at this; omega
  rw [hn1] at ha ⊢
  rw [hn2] at hb ⊢
  have HR1 : Hid (AOwn B w (.slice ad1 n1 cap1) s.arcs) := ha
  have HR2 : Hid (AOwn B' w (.slice ad2 n2 cap2) t.arcs) := hb
  obtain ⟨F, hF⟩ : ∃ F, decide (s = t) = F := ⟨_, rfl⟩
  have HF : Hid (decide (s = t) = F) := hF
  rw [hF]
  have HBB0 : Hid (∀ o1 o2, Below w.heap.size w ((w.alloc o1).alloc o2)) := fun o1 o2 => ((Below.refl _ w).alloc (Nat.le_refl _) o1).alloc (by simp) o2
  clear ha hb hn1 hn2 hF
  by_cases hf : ¬ s.final = t.final
  · have HE : Hid (F = false) := by
      show _ = _
      rw [← HF.out]
      exact decide_eq_false fun e => hf (by rw [e])
    generalize s.final = f1 at *
    generalize t.final = f2 at *
    have hfb : (f1 == f2) = false := beq_eq_false_iff_ne.2 hf
    go_enter Tryd.func26, Tryd.ntmps26
    go_wp2
    go_ret
    exact ⟨by rw [HE.out]; rfl, HBB0.out _ _⟩
  have hf' : s.final = t.final := Classical.not_not.1 hf
  by_cases ho : ¬ s.out = t.out
  · have HE : Hid (F = false) := by
      show _ = _
      rw [← HF.out]
      exact decide_eq_false fun e => ho (by rw [e])
    have hob : (s.out == t.out) = false := beq_eq_false_iff_ne.2 ho
    rw [hf']
    go_enter Tryd.func26, Tryd.ntmps26
    go_wp2
    go_ret
    exact ⟨by rw [HE.out]; rfl, HBB0.out _ _⟩
  have ho' : s.out = t.out := Classical.not_not.1 ho
  by_cases hne : ¬ n1 = n2
  · have HE : Hid (F = false) := by
      show _ = _
      rw [← HF.out]
      exact decide_eq_false fun e => hne (by rw [← HN.out.1, ← HN.out.2, e])
    have hneb : ((n1 : Int) == (n2 : Int)) = false := beq_eq_false_iff_ne.2 (by omega)
    rw [hf', ho']
    go_enter Tryd.func26, Tryd.ntmps26
    go_wp2
    go_ret
    exact ⟨by rw [HE.out]; rfl, HBB0.out _ _⟩
  have hne' : n1 = n2 := Classical.not_not.1 hne
  subst hne'
  have HFO : Hid (s.final = t.final ∧ s.out = t.out) := ⟨hf', ho'⟩
  rw [hf', ho']
  clear hf hf' ho ho' hne
  go_enter Tryd.func26, Tryd.ntmps26
  go_upto_region 3 with fail
  obtain ⟨W, hW⟩ : ∃ W, W = (w.alloc (.cells #[.bool t.final, .int .i64 t.out, .slice ad1 n1 cap1] 51)).alloc (.cells #[.bool t.final, .int .i64 t.out, .slice ad2 n1 cap2] 51) := ⟨_, rfl⟩
  rw [← hW]
  have HW : Hid (Below w.heap.size w W) := by show Below _ _ _; rw [hW]; exact HBB0.out _ _
  have b1 : ∀ q, (W.drewN q).cell? ⟨w.heap.size, 2, none⟩ = some (.slice ad1 n1 cap1) := fun q => by rw [hW]; simp
  have b2 : ∀ q, (W.drewN q).cell? ⟨w.heap.size + 1, 2, none⟩ = some (.slice ad2 n1 cap2) := fun q => by rw [hW]; simp
  have HBB : Hid (∀ q, Below w.heap.size w (W.drewN q)) := fun q => belowN HW.out q
  clear hW
  go_wp2
  go_loopg [5] n1 (fun g s5 wr => ∃ (k q : Nat), s5 = .int .i64 k ∧ k ≤ n1 ∧ n1 - k ≤ g ∧ wr = W.drewN q ∧ Hid (s.arcs.take k = t.arcs.take k))
  case atStart => exact ⟨0, 0, rfl, Nat.zero_le _, by omega, rfl, by show _ = _; simp⟩
  case round =>
    obtain ⟨k, q, rfl, hk, hg, rfl, HK⟩ := hrel
    have c1' := b1 q
    have c2' := b2 q
    by_cases hlt : k < n1
    · have hltz : (k : Int) < (n1 : Int) := by omega
      obtain ⟨x, hx⟩ : ∃ x, s.arcs[k]? = some x := ⟨s.arcs[k]'(by have := HN.out; omega), List.getElem?_eq_getElem _⟩
      obtain ⟨y, hy⟩ : ∃ y, t.arcs[k]? = some y := ⟨t.arcs[k]'(by have := HN.out; omega), List.getElem?_eq_getElem _⟩
      have r1 : AOwn B W (.slice ad1 n1 cap1) s.arcs := GOwn.below HR1.out HW.out
      have r2 : AOwn B' W (.slice ad2 n1 cap2) t.arcs := GOwn.below HR2.out HW.out
      obtain ⟨g1, ca1, ea1, hg1, _, _, hc1⟩ := r1.at (by have := HN.out; omega)
      obtain ⟨g2, ca2, ea2, hg2, _, _, hc2⟩ := r2.at (by have := HN.out; omega)
      simp only [Value.slice.injEq] at ea1 ea2
      obtain ⟨rfl, hnl1, rfl⟩ := ea1
      obtain ⟨rfl, hnl2, rfl⟩ := ea2
      obtain ⟨p0, p1, p2⟩ := hc1 k x hx
      obtain ⟨q0, q1, q2⟩ := hc2 k y hy
      have HX : Hid (s.arcs[k]? = some x ∧ t.arcs[k]? = some y) := ⟨hx, hy⟩
      have HNX : Hid (x = y → s.arcs.take (k + 1) = t.arcs.take (k + 1)) := fun e => take_alike HK.out hx hy e
      have HNE : Hid (x ≠ y → F = false) := fun e => by
        rw [← HF.out]
        refine decide_eq_false fun e2 => e ?_
        have h1 := HX.out.1
        rw [show s.arcs = t.arcs from by rw [e2], HX.out.2] at h1
        exact (Option.some.inj h1).symm
      clear hc1 hc2 hx hy r1 r2 hnl1 hnl2
      by_cases e1 : x.label = y.label
      · have s1 : (x.label == y.label) = true := beq_iff_eq.2 e1
        by_cases e2 : x.out = y.out
        · have s2 : (x.out == y.out) = true := beq_iff_eq.2 e2
          by_cases e3 : x.to = y.to
          · have s3 : ((x.to : Int) == (y.to : Int)) = true := beq_iff_eq.2 (by omega)
            have HK2 : Hid (s.arcs.take (k + 1) = t.arcs.take (k + 1)) := HNX.out (by cases x; cases y; simp only at e1 e2 e3; rw [e1, e2, e3])
            clear e1 e2 e3
            go_upto_region 6 with fail
            go_quiet (fail)
            go_wp2_with fail
            go_roundg (n1 - (k + 1))
            case measure => omega
            case rel => exact ⟨k + 1, q + nq, by go_num, by omega, Nat.le_refl _, rfl, HK2⟩
          · have s3 : ((x.to : Int) == (y.to : Int)) = false := beq_eq_false_iff_ne.2 (by omega)
            have HE : Hid (F = false) := HNE.out (fun e => e3 (by rw [e]))
            clear e1 e2 e3
            go_upto_region 6 with fail
            go_quiet (fail)
            go_wp2_with fail
            go_ret
            exact ⟨by rw [HE.out]; rfl, by first | exact HBB.out _ | exact belowN (HBB.out _) _⟩
        · have s2 : (x.out == y.out) = false := beq_eq_false_iff_ne.2 e2
          have HE : Hid (F = false) := HNE.out (fun e => e2 (by rw [e]))
          clear e1 e2
          go_upto_region 6 with fail
          go_quiet (fail)
          go_wp2_with fail
          go_ret
          exact ⟨by rw [HE.out]; rfl, by first | exact HBB.out _ | exact belowN (HBB.out _) _⟩
      · have s1 : (x.label == y.label) = false := beq_eq_false_iff_ne.2 e1
        have HE : Hid (F = false) := HNE.out (fun e => e1 (by rw [e]))
        clear e1
        go_upto_region 6 with fail
        go_quiet (fail)
        go_wp2_with fail
        go_ret
        exact ⟨by rw [HE.out]; rfl, by first | exact HBB.out _ | exact belowN (HBB.out _) _⟩
    · have hltz : ¬ (k : Int) < (n1 : Int) := by omega
      have HE : Hid (F = true) := by
        show _ = _
        rw [← HF.out]
        refine decide_eq_true ?_
        have h := HK.out
        rw [List.take_of_length_le (by have := HN.out; omega), List.take_of_length_le (by have := HN.out; omega)] at h
        have h2 := HFO.out
        cases s; cases t
        simp only at h h2
        rw [h, h2.1, h2.2]
      go_wp2
      go_ret
      exact ⟨by rw [HE.out]; rfl, by first | exact HBB.out _ | exact belowN (HBB.out _) _⟩
/-- What Same looks at in a round. -/
structure SM (ba bb ga gb i : Nat) (va vb : Value) (s t : St) (ua ub : Value) (w : World) : Prop where
  a : w.cell? ⟨ba, 1, none⟩ = some va
  b : w.cell? ⟨bb, 1, none⟩ = some vb
  a0 : w.cell? ⟨ga, i * 3, none⟩ = some (.bool s.final)
  a1 : w.cell? ⟨ga, i * 3 + 1, none⟩ = some (.int .i64 s.out)
  a2 : w.cell? ⟨ga, i * 3 + 2, none⟩ = some ua
  b0 : w.cell? ⟨gb, i * 3, none⟩ = some (.bool t.final)
  b1 : w.cell? ⟨gb, i * 3 + 1, none⟩ = some (.int .i64 t.out)
  b2 : w.cell? ⟨gb, i * 3 + 2, none⟩ = some ub
theorem SM.facts {ba bb ga gb i : Nat} {va vb : Value} {s t : St} {ua ub : Value} {w : World} (h : SM ba bb ga gb i va vb s t ua ub w) : w.cell? ⟨ba, 1, none⟩ = some va ∧ w.cell? ⟨bb, 1, none⟩ = some vb ∧ w.cell? ⟨ga, i * 3, none⟩ = some (.bool s.final) ∧ w.cell? ⟨ga, i * 3 + 1, none⟩ = some (.int .i64 s.out) ∧ w.cell? ⟨ga, i * 3 + 2, none⟩ = some ua ∧ w.cell? ⟨gb, i * 3, none⟩ = some (.bool t.final) ∧ w.cell? ⟨gb, i * 3 + 1, none⟩ = some (.int .i64 t.out) ∧ w.cell? ⟨gb, i * 3 + 2, none⟩ = some ub := ⟨h.a, h.b, h.a0, h.a1, h.a2, h.b0, h.b1, h.b2⟩
theorem SM.below {ba bb ga gb i : Nat} {va vb : Value} {s t : St} {ua ub : Value} {w w' : World} (h : SM ba bb ga gb i va vb s t ua ub w) (hb : Below w.heap.size w w') : SM ba bb ga gb i va vb s t ua ub w' := by
  have k : ∀ {g o : Nat} {v : Value}, w.cell? ⟨g, o, none⟩ = some v → w'.cell? ⟨g, o, none⟩ = some v := fun {g o v} h => (hb.cell (p := ⟨g, o, none⟩) (lt_of_cell h)).trans h
  exact ⟨k h.a, k h.b, k h.a0, k h.a1, k h.a2, k h.b0, k h.b1, k h.b2⟩
theorem StRow.small {B : Nat} {w : World} {vs : Value} {b : List St} (h : StRow B w vs b) : b.length ≤ 9223372036854775807 := by
  obtain ⟨xss, h1, h2, _⟩ := h
  have := GOwn.small h1
  rw [h2] at this
  simp only [maxLen] at this
  omega
end Go.Proofs.YthjlihhknaelaaaDoor

/- Stands for the elder text of this name, without its law. -/

/- FstLevel: the law's own walk. -/
namespace Go.Proofs.YthjlihhknaelaaaDoor
open Go.RowKit Nums Fm
set_option maxRecDepth 100000

theorem lowF_snoc (m : Int) {l : List Arc} {k : Nat} {a : Arc} (h : l[k]? = some a) : lowF m (l.take (k + 1)) = if a.out < lowF m (l.take k) then a.out else lowF m (l.take k) := by
  have key : ∀ (l : List Arc) (m : Int) (a : Arc), lowF m (l ++ [a]) = if a.out < lowF m l then a.out else lowF m l := by
    intro l
    induction l with
    | nil => intro m a; rfl
    | cons x r ih => intro m a; rw [List.cons_append, lowF, ih, lowF]
  rw [List.take_add_one, h]
  exact key _ _ _
/-- What is fixed behind Build. -/
structure Behind (w wm : World) (mb : Nat) (base : Int) (vs : Value) (b : List St) : Prop where
  bel : Below w.heap.size w wm
  row : StRow w.heap.size wm vs b
  mac : wm.heap[mb]? = some (.cells #[.int .i64 base, vs] 47)
theorem Behind.mk' {w w1 : World} {l : List Pr} {base : Int} {vs : Value} {b : List St} (h : BuildSays w w1 l base vs b) : Behind w (w1.alloc (.cells #[.int .i64 base, vs] 47)) w1.heap.size base vs b :=
  ⟨h.bel.alloc h.bel.size _, h.row.below ((Below.refl _ w1).alloc (Nat.le_refl _) _), alloc_newP _ _⟩
theorem Behind.below {w wm wm' : World} {mb : Nat} {base : Int} {vs : Value} {b : List St} (h : Behind w wm mb base vs b) (hb : Below wm.heap.size wm wm') : Behind w wm' mb base vs b :=
  ⟨h.bel.trans (hb.mono h.bel.size), h.row.below hb, (hb.block mb (Array.getElem?_eq_some_iff.1 h.mac).1).trans h.mac⟩
theorem mach_small {l : List Pr} : (machOf l).2.length ≤ 102400 := by
  rw [machOf]
  split
  · rename_i h
    have hg := dict_good h.1 h.2
    have h1 := (stF_facts 25 [] (ents l) (ok_of_rise 25 _ hg.1 hg.2.1 hg.2.2)).2.1
    have h2 := bulk_le (dict_ok h.1).en.ln
    rw [ents_len] at h2
    have h3 := (dict_ok h.1).len
    simp only [List.length_nil] at h1
    show (stF 25 [] (ents l)).1.length ≤ 102400
    omega
  · simp
end Go.Proofs.YthjlihhknaelaaaDoor

/- The law's own 'alive': it is true. -/
namespace Go.Proofs.YthjlihhknaelaaaDoor
open Go.RowKit Nums
set_option maxRecDepth 100000

/-- What is owned can be read. -/
theorem Made.row {B : Nat} {w : World} {v : Value} {xs : List Int} (h : Made B w v xs) : Row w v xs := by
  obtain ⟨hl, hn | ⟨g, cap, cur, rfl, hb, hg, h1, h2, h3, h4⟩⟩ := h
  · obtain ⟨rfl, h0⟩ := hn
    refine ⟨none, 0, by rw [h0], fun h => by omega⟩
  · refine ⟨_, _, rfl, fun _ => ⟨g, 0, rfl, fun i hi => ?_⟩⟩
    have hc : cur[i]? = some (.int .i32 (xs.getD i 0)) := by
      have e : (cur.toList.take (xs.length * 1))[i]? = (xs.map (Value.int .i32))[i]? := by rw [h4]
      rw [List.getElem?_take, if_pos (by omega)] at e
      rw [← Array.getElem?_toList, e, List.getElem?_map, List.getElem?_eq_getElem hi]
      simp [List.getD_eq_getElem?_getD, List.getElem?_eq_getElem hi]
    simp only [World.cell?, hg, Nat.zero_add]
    simpa using hc
/-- What could be read can be read still. -/
theorem Row.below {w w' : World} {v : Value} {xs : List Int} (h : Row w v xs) (hb : Below w.heap.size w w') : Row w' v xs := by
  obtain ⟨ao, cap, rfl, hc⟩ := h
  refine ⟨ao, cap, rfl, fun h0 => ?_⟩
  obtain ⟨b, off, rfl, hd⟩ := hc h0
  exact ⟨b, off, rfl, fun i hi => (hb.cell (p := ⟨b, off + i, none⟩) (lt_of_cell (hd i hi))).trans (hd i hi)⟩
/-- A row of one new number. -/
theorem row_one (w : World) (r : Int) : Row (w.alloc (Obj.cells #[Value.int .i32 r] 21)) (.slice (some ⟨w.heap.size, 0, none⟩) 1 1) [r] := by
  refine ⟨_, _, rfl, fun _ => ⟨w.heap.size, 0, rfl, fun i hi => ?_⟩⟩
  simp at hi
  subst hi
  simp

theorem rs_ae : rs [97, 195, 169] = some [97, 233] := by decide +kernel
theorem text_euro : allR [8364] = true ∧ textS [8364] = ⟨#[226, 130, 172]⟩ := by decide +kernel
theorem word_x : wordB [120] = true := by decide +kernel

end Go.Proofs.YthjlihhknaelaaaDoor

/- What the reference reckons, in plain numbers. No program is named here. -/
namespace Go.Proofs.YthjlihhknaelaaaDoor.Nums

/-- The number that so many bytes would say. -/
def sd (l : List UInt8) (n : Nat) : Int :=
  if n = 1 then bt l 0 else if n = 2 then bt l 0 % 32 * 64 + bt l 1 % 64
  else if n = 3 then (bt l 0 % 16 * 64 + bt l 1 % 64) * 64 + bt l 2 % 64
  else ((bt l 0 % 8 * 64 + bt l 1 % 64) * 64 + bt l 2 % 64) * 64 + bt l 3 % 64
theorem sd1 (l : List UInt8) : sd l 1 = bt l 0 := rfl
theorem sd2 (l : List UInt8) : sd l 2 = bt l 0 % 32 * 64 + bt l 1 % 64 := rfl
theorem sd3 (l : List UInt8) : sd l 3 = (bt l 0 % 16 * 64 + bt l 1 % 64) * 64 + bt l 2 % 64 := rfl
theorem sd4 (l : List UInt8) : sd l 4 = ((bt l 0 % 8 * 64 + bt l 1 % 64) * 64 + bt l 2 % 64) * 64 + bt l 3 % 64 := rfl

theorem rd_zero {l : List UInt8} (h : (rd l).2 = 0) : rd l = (0, 0) := by
  revert h
  unfold rd
  by_cases c1 : bt l 0 < 128
  · rw [if_pos c1]; intro h; cases h
  rw [if_neg c1]
  split
  · intro h; cases h
  split
  · intro h; cases h
  split
  · intro h; cases h
  intro _; rfl
theorem rd_said {l : List UInt8} (h : (rd l).2 ≠ 0) : (rd l).1 = sd l (rd l).2 := by
  have c0 := bt_bd l 0
  revert h
  unfold rd
  by_cases c1 : bt l 0 < 128
  · rw [if_pos c1]; intro _; exact (sd1 l).symm
  rw [if_neg c1]
  split
  · rename_i c; intro _
    show acc 192 l 2 = sd l 2
    rw [acc2, sd2]; omega
  split
  · rename_i c; intro _
    show acc 224 l 3 = sd l 3
    rw [acc3, sd3]; omega
  split
  · rename_i c; intro _
    show acc 240 l 4 = sd l 4
    rw [acc4, sd4]; omega
  intro h; exact absurd rfl h

/-- The reference's test at n holds just where 'rd' tells n bytes. -/
theorem first_yes {l : List UInt8} {n : Nat} (hn : n ≤ l.length) (hr : isR (sd l n) = true) (hw : wr (sd l n) = l.take n) : rd l = (sd l n, n) := by
  have h := rd_wr hr (l.drop n)
  rw [hw, List.take_append_drop] at h
  rw [h]
  have : (wr (sd l n)).length = (l.take n).length := by rw [hw]
  rw [wr_len, List.length_take] at this
  rw [this, Nat.min_eq_left hn]
theorem first_no {l : List UInt8} (hl : l ≠ []) {n : Nat} (h1 : 1 ≤ n) (h : ¬ (isR (sd l n) = true ∧ wr (sd l n) = l.take n)) : (rd l).2 ≠ n := by
  intro e
  have h0 : (rd l).2 ≠ 0 := by omega
  have hs := rd_said h0
  rw [e] at hs
  obtain ⟨hr, hlen, hb⟩ := rd_back hl (r := sd l n) (n := n) (Prod.ext hs e) (by omega)
  refine h ⟨hr, ?_⟩
  have e2 : l.take n = (wr (sd l n) ++ l.drop n).take n := congrArg (List.take n) hb
  rw [e2, List.take_append_of_le_length (by rw [wr_len]; omega), List.take_of_length_le (by rw [wr_len]; omega)]
theorem sd_bd (l : List UInt8) (n : Nat) : 0 ≤ sd l n ∧ sd l n < 2097152 := by
  have c0 := bt_bd l 0
  unfold sd
  by_cases h1 : n = 1
  · rw [if_pos h1]; omega
  rw [if_neg h1]
  by_cases h2 : n = 2
  · rw [if_pos h2]; omega
  rw [if_neg h2]
  by_cases h3 : n = 3
  · rw [if_pos h3]; omega
  rw [if_neg h3]; omega
end Go.Proofs.YthjlihhknaelaaaDoor.Nums

/- The reference's own small functions: what each of them returns. -/
namespace Go.Proofs.YthjlihhknaelaaaDoor
open Go.RowKit Nums
set_option maxRecDepth 100000
attribute [local go_sem ↓] Go.wp_at_zero Go.wp_at_succ

set_option maxHeartbeats 400000 in
theorem Rune_any (r : Int) (w : World) : Calls Tryd.prog 79 #[.int .i64 r] w fun e w' => e = .returned (.bool (isR r)) ∧ w' = w := by
  by_cases h0 : 0 ≤ r
  · by_cases h1 : r ≤ 1114111
    · by_cases h2 : r < 55296
      · go_enter Tryd.func79, Tryd.ntmps79
        go_wp2
        go_ret
        exact ⟨ret_bool (by first | (rw [isR_of (by omega)]) | (rw [isR_not (by omega)])), rfl⟩
      · by_cases h3 : 57343 < r
        all_goals
          go_enter Tryd.func79, Tryd.ntmps79
          go_wp2
          go_ret
          exact ⟨ret_bool (by first | (rw [isR_of (by omega)]) | (rw [isR_not (by omega)])), rfl⟩
    · go_enter Tryd.func79, Tryd.ntmps79
      go_wp2
      go_ret
      exact ⟨ret_bool (by first | (rw [isR_of (by omega)]) | (rw [isR_not (by omega)])), rfl⟩
  · go_enter Tryd.func79, Tryd.ntmps79
    go_wp2
    go_ret
    exact ⟨ret_bool (by first | (rw [isR_of (by omega)]) | (rw [isR_not (by omega)])), rfl⟩

theorem conv_new (w : World) (xs : List Int) (n : Nat) (hn : xs.length = n) :
    (convert 132 9 (.slice (some ⟨w.heap.size, 0, none⟩) n n)).run Tryd.prog (w.alloc (.cells (xs.map (Value.int .u8)).toArray 5)) = .ok (.string (strOfNums xs)) (w.alloc (.cells (xs.map (Value.int .u8)).toArray 5)) := by
  refine run_convert_bytes_arg _ 132 5 Tryd.underlying132 Tryd.underlying5 w.heap.size 0 n n xs hn (fun i hi => ?_) 9 Tryd.underlying9
  rw [Nat.zero_add, World.cell?_alloc_new]
  subst hn
  simp [List.getD_eq_getElem?_getD, List.getElem?_eq_getElem hi]

set_option maxHeartbeats 1000000 in
theorem Write_any (r : Int) (w : World) (hr : isR r = true) : Calls Tryd.prog 80 #[.int .i64 r] w fun e w' => e = .returned (.string (strOfNums (wrI r))) ∧ Below w.heap.size w w' := by
  have hbd := isR_bd hr
  clear hr
  by_cases a : r < 128
  · have h := conv_new w [r] 1 rfl
    simp only [List.map] at h
    have HW : Hid (wrI r = [r]) := wrI1 a
    go_enter Tryd.func80, Tryd.ntmps80
    go_wp2
    go_ret
    exact ⟨by rw [HW.out]; rfl, (Below.refl _ _).alloc (Nat.le_refl _) _⟩
  by_cases b : r < 2048
  · have h := conv_new w [192 + r / 64, 128 + r % 64] 2 rfl
    simp only [List.map] at h
    have HW : Hid (wrI r = [192 + r / 64, 128 + r % 64]) := wrI2 (by omega) b
    go_enter Tryd.func80, Tryd.ntmps80
    go_wp2
    go_ret
    exact ⟨by rw [HW.out]; rfl, (Below.refl _ _).alloc (Nat.le_refl _) _⟩
  by_cases c : r < 65536
  · have h := conv_new w [224 + r / 4096, 128 + r / 64 % 64, 128 + r % 64] 3 rfl
    simp only [List.map] at h
    have HW : Hid (wrI r = [224 + r / 4096, 128 + r / 64 % 64, 128 + r % 64]) := by
      show wrI r = _
      rw [wrI3 (by omega) c, show r / 64 / 64 = r / 4096 by omega]
    go_enter Tryd.func80, Tryd.ntmps80
    go_wp2
    go_ret
    exact ⟨by rw [HW.out]; rfl, (Below.refl _ _).alloc (Nat.le_refl _) _⟩
  · have h := conv_new w [240 + r / 262144, 128 + r / 4096 % 64, 128 + r / 64 % 64, 128 + r % 64] 4 rfl
    simp only [List.map] at h
    have HW : Hid (wrI r = [240 + r / 262144, 128 + r / 4096 % 64, 128 + r / 64 % 64, 128 + r % 64]) := by
      show wrI r = _
      rw [wrI4 (by omega), show r / 64 / 64 / 64 = r / 262144 by omega, show r / 64 / 64 = r / 4096 by omega]
    go_enter Tryd.func80, Tryd.ntmps80
    go_wp2
    go_ret
    exact ⟨by rw [HW.out]; rfl, (Below.refl _ _).alloc (Nat.le_refl _) _⟩

theorem byte_bd (s : ByteArray) (i : Nat) (h : i < s.size) : ((s[i]'h).toNat : Int) < 256 := by have := (s[i]'h).toNat_lt; omega

set_option maxHeartbeats 1000000 in
theorem said_any (s : ByteArray) (n : Nat) (w : World) (h1 : 1 ≤ n) (h4 : n ≤ 4) (hn : n ≤ s.size) (hm : s.size ≤ 9223372036854775807) :
    Calls Tryd.prog 78 #[.string s, .int .i64 n] w fun e w' => e = .returned (.int .i64 (sd s.data.toList n)) ∧ w' = w := by
  have HB : Hid (∀ i (h : i < s.size), ((s[i]'h).toNat : Int) = bt s.data.toList i) := bt_get s
  obtain rfl | rfl | rfl | rfl : n = 1 ∨ n = 2 ∨ n = 3 ∨ n = 4 := by omega
  · have q0 := byte_bd s 0 (by omega)
    go_enter Tryd.func78, Tryd.ntmps78
    go_wp2
    go_ret
    exact ⟨ret_int (by rw [sd1, HB.out 0 (by omega)]), rfl⟩
  · have q0 := byte_bd s 0 (by omega)
    have q1 := byte_bd s 1 (by omega)
    go_enter Tryd.func78, Tryd.ntmps78
    go_wp2
    refine wp_loop_rounds 2 ?_
    rw [rounds_succ]
    go_wp2
    rw [rounds_succ]
    go_wp2
    go_ret
    exact ⟨ret_int (by rw [sd2, HB.out 0 (by omega), HB.out 1 (by omega)]), rfl⟩
  · have q0 := byte_bd s 0 (by omega)
    have q1 := byte_bd s 1 (by omega)
    have q2 := byte_bd s 2 (by omega)
    go_enter Tryd.func78, Tryd.ntmps78
    go_wp2
    refine wp_loop_rounds 3 ?_
    rw [rounds_succ]
    go_wp2
    rw [rounds_succ]
    go_wp2
    rw [rounds_succ]
    go_wp2
    go_ret
    exact ⟨ret_int (by rw [sd3, HB.out 0 (by omega), HB.out 1 (by omega), HB.out 2 (by omega)]), rfl⟩
  · have q0 := byte_bd s 0 (by omega)
    have q1 := byte_bd s 1 (by omega)
    have q2 := byte_bd s 2 (by omega)
    have q3 := byte_bd s 3 (by omega)
    go_enter Tryd.func78, Tryd.ntmps78
    go_wp2
    refine wp_loop_rounds 4 ?_
    rw [rounds_succ]
    go_wp2
    rw [rounds_succ]
    go_wp2
    rw [rounds_succ]
    go_wp2
    rw [rounds_succ]
    go_wp2
    go_ret
    exact ⟨ret_int (by rw [sd4, HB.out 0 (by omega), HB.out 1 (by omega), HB.out 2 (by omega), HB.out 3 (by omega)]), rfl⟩
end Go.Proofs.YthjlihhknaelaaaDoor
