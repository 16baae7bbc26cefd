/- fst.firstFault. -/
import Derived.Test.YtllmdfkiogmofaaGreatDoorJ3
namespace Go.Proofs.YtllmdfkiogmofaaGreatDoor
open Go.RowKit Nums Pm
set_option maxRecDepth 100000

theorem drop_at (l : List Pr) (k : Nat) (x : Pr) (h : l[k]? = some x) : l.drop k = x :: l.drop (k + 1) := by
  obtain ⟨hk, rfl⟩ := List.getElem?_eq_some_iff.1 h
  exact List.drop_eq_getElem_cons hk
theorem PRow.form {w : World} {v : Value} {l : List Pr} (h : PRow w v l) : ∃ ad cap, v = .slice ad l.length cap := by
  obtain ⟨ad, cap, e, _⟩ := h; exact ⟨ad, cap, e⟩
def prevOk : Option Pr → Pr → Bool
  | none, _ => true
  | some p, x => lessB p.1 x.1
/-- What is wrong with a pair. -/
def oneF (p : Option Pr) (x : Pr) : Int := if wordB x.1.data.toList = false then 71 else if x.2 < 1 ∨ 1048576 < x.2 then 72 else if prevOk p x = false then 73 else 0
def faultF (p : Option Pr) : List Pr → Int
  | [] => 0
  | x :: r => if oneF p x = 0 then faultF (some x) r else oneF p x
def prevAt (l : List Pr) : Nat → Option Pr
  | 0 => none
  | k + 1 => l[k]?
theorem fault_bad {l : List Pr} {k : Nat} {x : Pr} (hx : l[k]? = some x) {e : Int} (h : oneF (prevAt l k) x = e) (he : e ≠ 0) : faultF (prevAt l k) (l.drop k) = e := by rw [drop_at l k x hx, faultF, h, if_neg he]
theorem fault_step {l : List Pr} {k : Nat} {x : Pr} (hx : l[k]? = some x) (h : oneF (prevAt l k) x = 0) : faultF (prevAt l k) (l.drop k) = faultF (prevAt l (k + 1)) (l.drop (k + 1)) := by
  rw [drop_at l k x hx, faultF, h, if_pos rfl, prevAt, hx]
theorem fault_end {l : List Pr} {k : Nat} (h : l.length ≤ k) : faultF (prevAt l k) (l.drop k) = 0 := by rw [List.drop_eq_nil_of_le h]; rfl
theorem one_word {p : Option Pr} {x : Pr} (h : wordB x.1.data.toList = false) : oneF p x = 71 := by simp [oneF, h]
theorem one_low {p : Option Pr} {x : Pr} (hw : wordB x.1.data.toList = true) (h : x.2 < 1) : oneF p x = 72 := by simp [oneF, h, hw]
theorem one_high {p : Option Pr} {x : Pr} (hw : wordB x.1.data.toList = true) (h : 1048576 < x.2) : oneF p x = 72 := by simp [oneF, h, hw]
theorem one_late {p : Option Pr} {x : Pr} (hw : wordB x.1.data.toList = true) (h1 : ¬ x.2 < 1) (h2 : ¬ 1048576 < x.2) (h : prevOk p x = false) : oneF p x = 73 := by simp [oneF, h, hw, h1, h2]
theorem one_ok {p : Option Pr} {x : Pr} (hw : wordB x.1.data.toList = true) (h1 : ¬ x.2 < 1) (h2 : ¬ 1048576 < x.2) (h : prevOk p x = true) : oneF p x = 0 := by simp [oneF, h, hw, h1, h2]
/-- Strings that can be. -/
def Sm (l : List Pr) : Prop := ∀ x ∈ l, x.1.size ≤ 9223372036854775807
theorem Sm.at {l : List Pr} (h : Sm l) {k : Nat} {x : Pr} (hx : l[k]? = some x) : x.1.size ≤ 9223372036854775807 := h x (List.mem_of_getElem? hx)

set_option maxHeartbeats 4000000 in
theorem firstFault_any (w : World) (v : Value) (l : List Pr) (h : PRow w v l) (hl : l.length ≤ 9223372036854775807) (hsm : Sm l) (ht : Tabs w) :
    Calls Tryz.prog 39 #[v] w fun e w' => e = .returned (.int .i64 (faultF none l)) ∧ Below w.heap.size w w' := by
  obtain ⟨ad, cap, rfl⟩ := h.form
  have HR : Hid (PRow w (.slice ad l.length cap) l) := h
  obtain ⟨n, hn⟩ : ∃ n, l.length = n := ⟨_, rfl⟩
  have HN : Hid (l.length = n) := hn
  have HS : Hid (Sm l) := hsm
  have HT : Hid (Tabs w) := ht
  rw [hn] at HR hl
  obtain ⟨F, hF⟩ : ∃ F, faultF none l = F := ⟨_, rfl⟩
  have HF : Hid (faultF none l = F) := hF
  clear h hsm ht
  rw [hn, hF]
  clear hn hF
  go_enter Tryz.func39, Tryz.ntmps39
  go_wp2
  go_loopg [3, 4, 7] n (fun g _ _ s10 wr => ∃ (k : Nat), s10 = .int .i64 k ∧ k ≤ n ∧ n - k ≤ g ∧ Hid (Below w.heap.size w wr) ∧ Hid (faultF (prevAt l k) (l.drop k) = F))
  case atStart => exact ⟨0, rfl, Nat.zero_le _, by omega, Below.refl _ _, HF⟩
  case round =>
    obtain ⟨k, rfl, hk, hg, HB, HK⟩ := hrel
    by_cases hlt : k < n
    · have hltz : (k : Int) < (n : Int) := by omega
      obtain ⟨x, hx⟩ : ∃ x, l[k]? = some x := ⟨l[k]'(by have := HN.out; omega), List.getElem?_eq_getElem _⟩
      obtain ⟨b, off, rfl, hb, hcell⟩ := (HR.out.below HB.out).at (by omega)
      obtain ⟨c0, c1⟩ := hcell k x hx
      have HX : Hid (l[k]? = some x) := hx
      obtain ⟨X, hXe⟩ : ∃ X : Obj, X = .cells #[.string x.1, .int .i64 x.2] 47 := ⟨_, rfl⟩
      have hw := fun (W : World) (ht : Tabs W) => Word_any x.1 W ht (HS.out.at hx)
      have HTA : Hid (∀ o, Tabs (wr.alloc o)) := fun o => (HT.out.below HB.out).below ((Below.refl _ wr).alloc (Nat.le_refl _) o)
      have HBA : Hid (∀ o q, Below w.heap.size w ((wr.alloc o).drewN q)) := fun o q => belowN (HB.out.alloc (by have := HB.out.size; omega) o) q
      clear hXe
      cases hwd : wordB x.1.data.toList
      · have HE : Hid (F = 71) := by show _ = _; rw [← HK.out]; exact fault_bad hx (one_word hwd) (by decide)
        rw [hwd] at hw
        clear hcell hx hwd
        go_wp2_with (go_at_call 57; refine (hw _ (HTA.out _)).mono ?_; rintro e w2 ⟨rfl, q, rfl⟩)
        go_ret
        exact ⟨by rw [HE.out]; rfl, HBA.out _ _⟩
      · rw [hwd] at hw
        by_cases hlo : x.2 < 1
        · have HE : Hid (F = 72) := by show _ = _; rw [← HK.out]; exact fault_bad hx (one_low hwd hlo) (by decide)
          clear hcell hx hwd
          go_wp2_with (go_at_call 57; refine (hw _ (HTA.out _)).mono ?_; rintro e w2 ⟨rfl, q, rfl⟩)
          go_ret
          exact ⟨by rw [HE.out]; rfl, HBA.out _ _⟩
        · by_cases hhi : 1048576 < x.2
          · have HE : Hid (F = 72) := by show _ = _; rw [← HK.out]; exact fault_bad hx (one_high hwd hhi) (by decide)
            clear hcell hx hwd
            go_wp2_with (go_at_call 57; refine (hw _ (HTA.out _)).mono ?_; rintro e w2 ⟨rfl, q, rfl⟩)
            go_ret
            exact ⟨by rw [HE.out]; rfl, HBA.out _ _⟩
          · have HWD : Hid (wordB x.1.data.toList = true ∧ ¬ x.2 < 1 ∧ ¬ 1048576 < x.2) := ⟨hwd, hlo, hhi⟩
            clear hwd
            by_cases hk0 : k = 0
            · have HK2 : Hid (faultF (prevAt l (k + 1)) (l.drop (k + 1)) = F) := by show _ = _; rw [← HK.out]; exact (fault_step HX.out (one_ok HWD.out.1 HWD.out.2.1 HWD.out.2.2 (by rw [hk0]; rfl))).symm
              have hk0z : ¬ (0 : Int) < (k : Int) := by omega
              have hgd : decide (0 < k) = false := decide_eq_false (by omega)
              have HF2 : Hid (∀ (W : World) (q : Nat), W = (wr.alloc (.cells #[.string x.1, .int .i64 x.2] 47)).drewN q → W.cell? ⟨wr.heap.size, 0, none⟩ = some (.string x.1) ∧ W.cell? ⟨wr.heap.size, 1, none⟩ = some (.int .i64 x.2) ∧ W.cell? ⟨b, off + k * 2, none⟩ = some (.string x.1) ∧ Hid (Below w.heap.size w W)) := fun W q e => by subst e; exact ⟨by simp, by simp, by have := ((Below.refl _ wr).alloc (Nat.le_refl _) (.cells #[.string x.1, .int .i64 x.2] 47)).cell (p := ⟨b, off + k * 2, none⟩) hb; exact this.trans c0, HBA.out _ _⟩
              clear hcell hx hk0
              go_wp2_with (go_at_call 57; refine (hw _ (HTA.out _)).mono ?_; rintro e w2 ⟨rfl, q, hq⟩; obtain ⟨q0, q1, q2, HBq⟩ := HF2.out _ _ hq; clear hq)
              go_quiet (fail)
              go_wp2
              have HB2 : Hid (Below w.heap.size w _) := belowN HBq.out nq
              go_roundg (n - (k + 1))
              case measure => omega
              case rel => exact ⟨k + 1, by go_num, by omega, Nat.le_refl _, HB2, HK2⟩
            · obtain ⟨kp, hkp⟩ : ∃ kp, kp + 1 = k := ⟨k - 1, by omega⟩
              have hk0z : (0 : Int) < (k : Int) := by omega
              have hgd : decide (0 < k) = true := decide_eq_true (by omega)
              have ekp : (k : Int) - 1 = (kp : Int) := by omega
              obtain ⟨y, hy⟩ : ∃ y, l[kp]? = some y := ⟨l[kp]'(by have := HN.out; omega), List.getElem?_eq_getElem _⟩
              obtain ⟨d0, d1⟩ := hcell kp y hy
              have rkp : IntKind.i64.wrap (kp : Int) = (kp : Int) := by rw [IntKind.wrap_i64]; omega
              have pkp : (0 : Int) ≤ (kp : Int) := by omega
              have bkp : (kp : Int) < (n : Int) := by omega
              have tkp : (kp : Int).toNat = kp := by omega
              have hls := fun W => pless_any y.1 x.1 W
              have HF2 : Hid (∀ (W : World) (q : Nat), W = (wr.alloc (.cells #[.string x.1, .int .i64 x.2] 47)).drewN q → W.cell? ⟨wr.heap.size, 0, none⟩ = some (.string x.1) ∧ W.cell? ⟨wr.heap.size, 1, none⟩ = some (.int .i64 x.2) ∧ W.cell? ⟨b, off + kp * 2, none⟩ = some (.string y.1) ∧ Hid (Below w.heap.size w W)) := fun W q e => by subst e; exact ⟨by simp, by simp, by have := ((Below.refl _ wr).alloc (Nat.le_refl _) (.cells #[.string x.1, .int .i64 x.2] 47)).cell (p := ⟨b, off + kp * 2, none⟩) hb; exact this.trans d0, HBA.out _ _⟩
              cases hyx : lessB y.1 x.1
              · have HE : Hid (F = 73) := by show _ = _; rw [← HK.out]; exact fault_bad HX.out (one_late HWD.out.1 HWD.out.2.1 HWD.out.2.2 (by rw [← hkp, prevAt, hy]; exact hyx)) (by decide)
                rw [hyx] at hls
                clear hcell hx hkp hy hyx hk0
                go_wp2_with (go_at_call 57; refine (hw _ (HTA.out _)).mono ?_; rintro e w2 ⟨rfl, q, hq⟩; obtain ⟨q0, q1, q2, HBq⟩ := HF2.out _ _ hq; clear hq)
                go_quiet (first | (go_at_call 63; refine Calls.quiet_of_same (hls _)))
                go_wp2
                go_ret
                exact ⟨by rw [HE.out]; rfl, belowN HBq.out nq⟩
              · have HK2 : Hid (faultF (prevAt l (k + 1)) (l.drop (k + 1)) = F) := by show _ = _; rw [← HK.out]; exact (fault_step HX.out (one_ok HWD.out.1 HWD.out.2.1 HWD.out.2.2 (by rw [← hkp, prevAt, hy]; exact hyx))).symm
                rw [hyx] at hls
                clear hcell hx hkp hy hyx hk0
                go_wp2_with (go_at_call 57; refine (hw _ (HTA.out _)).mono ?_; rintro e w2 ⟨rfl, q, hq⟩; obtain ⟨q0, q1, q2, HBq⟩ := HF2.out _ _ hq; clear hq)
                go_quiet (first | (go_at_call 63; refine Calls.quiet_of_same (hls _)))
                go_wp2
                have HB2 : Hid (Below w.heap.size w _) := belowN HBq.out nq
                go_roundg (n - (k + 1))
                case measure => omega
                case rel => exact ⟨k + 1, by go_num, by omega, Nat.le_refl _, HB2, HK2⟩
    · have hltz : ¬ (k : Int) < (n : Int) := by omega
      have HE : Hid (F = 0) := by show _ = _; rw [← HK.out]; exact fault_end (by have := HN.out; omega)
      go_wp2
      go_ret
      exact ⟨by rw [HE.out]; rfl, HB.out⟩
end Go.Proofs.YtllmdfkiogmofaaGreatDoor
