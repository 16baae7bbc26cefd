/- slices.Backward at arcs; behind. -/
import Derived.Test.YthfngcpcccbnpaaDoorRnd
import Derived.Test.YthfngcpcccbnpaaDoorG0
import Derived.Test.YthfngcpcccbnpaaDoorFzMath
import Derived.LoopIn
import Derived.TacticsInMore
import Derived.OwnWalkIn
namespace Go.Proofs.YthfngcpcccbnpaaDoor
open Go.RowKit Nums Fm Pk Fz
set_option maxRecDepth 100000
attribute [local go_sem] Oper.semAt_some

def arcW (a : RArc) : Value := .agg #[.int .i32 a.label, .int .i64 a.out, .int .i64 a.to]
def zArc : RArc := ⟨0, 0, 0⟩
/-- What Backward's function looks at. -/
structure BkAt (bx : Nat) (ad : Option Addr) (cap : Nat) (l : List RArc) (W : World) : Prop where
  box : W.cell? ⟨bx, 0, none⟩ = some (.slice ad l.length cap)
  row : ∃ E, ArcsAt E W (.slice ad l.length cap) l
theorem Backward_any (ad : Option Addr) (n cap : Nat) (w : World) : Calls Tryd.prog 55 #[.slice ad n cap] w fun e w' => e = .returned (.func (.func 79) #[] #[.pointer (some ⟨w.heap.size, 0, none⟩)]) ∧ w' = w.alloc (.cells #[.slice ad n cap] 98) := by
  go_enter Tryd.func55, Tryd.ntmps55
  go_wp2
  go_ret
  exact ⟨rfl, rfl⟩
set_option maxHeartbeats 1000000 in
theorem back_seq (bx : Nat) (ad : Option Addr) (cap : Nat) (l : List RArc) (hl : l.length ≤ 9223372036854775807) :
    SeqB 79 #[.pointer (some ⟨bx, 0, none⟩)] (fun k => #[.int .i64 ((l.length - 1 - k : Nat) : Int), arcW (l.getD (l.length - 1 - k) zArc)]) l.length (BkAt bx ad cap l) := by
  intro yl J W hT hy h0
  have hb0 := (hT 0 W h0).box
  obtain ⟨n, hn⟩ : ∃ n, l.length = n := ⟨_, rfl⟩
  have HT : Hid (∀ k W, J k W → BkAt bx ad cap l W) := hT
  have HY : Hid (∀ k W, k < n → J k W → YieldAt Fence.wide 0 Tryd.prog yl #[.int .i64 ((n - 1 - k : Nat) : Int), arcW (l.getD (n - 1 - k) zArc)] W fun e W' => e = .returned (.bool true) ∧ J (k + 1) W') := by
    have := hy; rw [hn] at this; exact this
  have HN : Hid (l.length = n) := hn
  rw [hn] at hb0 hl ⊢
  clear hT hy hn
  have hdd : ∀ k : Nat, (Fence.wide.depth.isSome = true → 1 ≤ k) := fun k h => by simp [Fence.wide] at h
  refine (callsIn_wide (n := 1)).1 ?_
  refine callsIn_of_wp Tryd.func79 rfl trivial ?_ rfl
  simp only [Tryd.ntmps79, List.size_toArray, List.length_cons, List.length_nil, Nat.reduceAdd, Nat.reduceSub, Array.replicate_succ, Array.replicate_zero, List.push_toArray, List.append_toArray, List.nil_append, List.cons_append]
  have hw1 : IntKind.i64.wrap ((n : Int) - 1) = (n : Int) - 1 := by rw [IntKind.wrap_i64]; omega
  gi_wp2
  gi_loopw [3] (fun v wr => ∃ k : Nat, k ≤ n ∧ v = .int .i64 ((n : Int) - 1 - (k : Int)) ∧ J k wr) (fun v _ => (intOf v + 1).toNat)
  case atStart => exact ⟨0, Nat.zero_le _, by first | rfl | (congr 1; omega) | simp, h0⟩
  case round =>
    obtain ⟨k, hk, rfl, hJ⟩ := hrel
    by_cases hkn : k < n
    · obtain ⟨m, hm⟩ : ∃ m, m = n - 1 - k := ⟨_, rfl⟩
      have hmi : (n : Int) - 1 - (k : Int) = (m : Int) := by omega
      have hB := HT.out k wr hJ
      have hbx := hB.box
      obtain ⟨E, hrow⟩ := hB.row
      rw [HN.out] at hbx hrow
      obtain ⟨x, hx⟩ : ∃ x, l[m]? = some x := ⟨_, List.getElem?_eq_getElem (by have := HN.out; omega)⟩
      obtain ⟨g, off, rfl, _, c0, c1, c2⟩ := hrow.at hx
      obtain ⟨fn, tmps, assign, body, hyy, hRr⟩ := HY.out k wr hkn hJ
      rw [← hm, List.getD_eq_getElem?_getD, hx, Option.getD_some] at hyy
      simp only [arcW] at hyy
      rw [hmi]
      have hm0 : (m : Int) < (n : Int) := by omega
      have hw2 : IntKind.i64.wrap ((m : Int) - 1) = (m : Int) - 1 := by rw [IntKind.wrap_i64]; omega
      have HM : Hid (m + k + 1 = n) := by show m + k + 1 = n; omega
      clear hB hrow hmi hm hx
      gi_wp2
      refine hRr.mono ?_
      rintro e W3 ⟨rfl, hJ3⟩
      gi_wp2
      go_roundw
      case rel => exact ⟨k + 1, by omega, by have := HM.out; congr 1; omega, hJ3⟩
      case measure => first | (simp [intOf]; done) | (simp [intOf]; omega)
    · have hkn2 : k = n := by omega
      have hneg : (n : Int) - 1 - (k : Int) < 0 := by omega
      rw [hkn2] at hJ
      have hz : (n : Int) - 1 - (k : Int) = -1 := by omega
      rw [hz]
      clear hneg hz hkn hk
      gi_wp2
      go_end0
      exact ⟨⟨_, rfl⟩, hJ⟩
set_option maxHeartbeats 1000000 in
theorem fzBehind_any (t : List Int) (r : Int) (w : World) (hT : Tabs w) (h1 : allR t = true) (h2 : allR [r] = true) (ht : t.length ≤ 24) : Calls Tryd.prog 58 #[.string (textS t), .int .i32 r] w fun e w' => e = .returned (.string (textS (t ++ [r]))) ∧ Below w.heap.size w w' := by
  have HE : Hid (textS (t ++ [r]) = textS t ++ textS [r]) := textS_snoc h1 h2
  have hsz1 := textS_few t
  have hsz2 := textS_few [r]
  obtain ⟨tx, htx⟩ : ∃ tx, textS t = tx := ⟨_, rfl⟩
  rw [htx] at HE hsz1 ⊢
  have HC : Hid (∀ T, Calls Tryd.prog 80 #[.slice (some ⟨w.heap.size, 0, none⟩) 1 1] (w.alloc (.cells #[.int .i32 r] T)) fun e w' => e = .returned (.tuple #[.string (textS [r]), .bool (allR [r])]) ∧ Below (w.alloc (.cells #[.int .i32 r] T)).heap.size (w.alloc (.cells #[.int .i32 r] T)) w') := fun T => by
    have hb : Below w.heap.size w (w.alloc (.cells #[.int .i32 r] T)) := (Below.refl _ w).alloc (Nat.le_refl _) _
    refine Text_any _ [r] _ (hT.below hb) ⟨some ⟨w.heap.size, 0, none⟩, 1, rfl, fun _ => ⟨w.heap.size, 0, rfl, fun i hi => ?_⟩⟩ (by simp)
    have : i = 0 := by simp at hi; omega
    subst this
    simp
  obtain ⟨tr, htr⟩ : ∃ tr, textS [r] = tr := ⟨_, rfl⟩
  rw [htr] at HE HC hsz2
  have hsz : ¬ 9223372036854775807 < tx.size + tr.size := by simp at hsz2; omega
  clear htx htr h1 hsz1 hsz2 ht
  go_enter Tryd.func58, Tryd.ntmps58
  go_wp2_with (go_at_call 80; refine (HC.out _).mono ?_; rintro e w1 ⟨rfl, hb1⟩)
  go_ret
  exact ⟨by rw [HE.out]; rfl, ((Below.refl _ w).alloc (Nat.le_refl _) _).trans (hb1.mono (by simp))⟩
end Go.Proofs.YthfngcpcccbnpaaDoor
