/- One edit: mathematics, and the reference's Once. -/
import Derived.Test.YtjfbildaaobfpaaDoorEdRef
import Derived.Test.YtjfbildaaobfpaaDoorSame
namespace Go.Proofs.YtjfbildaaobfpaaDoor
open Go.RowKit Nums Ed
set_option maxRecDepth 100000

namespace Ed
/-- How many numbers both begin with alike. -/
def cp : List Int → List Int → Nat
  | x :: xs, y :: ys => if x = y then cp xs ys + 1 else 0
  | _, _ => 0
theorem cp_le : ∀ xs ys : List Int, cp xs ys ≤ xs.length ∧ cp xs ys ≤ ys.length
  | [], _ => by simp [cp]
  | _ :: _, [] => by simp [cp]
  | x :: xs, y :: ys => by
    have := cp_le xs ys
    simp only [cp]
    split
    · simp; omega
    · simp
theorem cp_take : ∀ xs ys : List Int, xs.take (cp xs ys) = ys.take (cp xs ys)
  | [], _ => by simp [cp]
  | _ :: _, [] => by simp [cp]
  | x :: xs, y :: ys => by
    simp only [cp]
    split
    · rename_i h; rw [List.take_succ_cons, List.take_succ_cons, cp_take xs ys, h]
    · simp
theorem cp_lt : ∀ (xs ys : List Int) (k : Nat), k < cp xs ys → xs[k]? = ys[k]?
  | [], _, k, h => by simp [cp] at h
  | _ :: _, [], k, h => by simp [cp] at h
  | x :: xs, y :: ys, k, h => by
    simp only [cp] at h
    split at h
    · rename_i e
      cases k with
      | zero => simp [e]
      | succ k => simpa using cp_lt xs ys k (by omega)
    · omega
theorem cp_ne : ∀ (xs ys : List Int) (x y : Int), xs[cp xs ys]? = some x → ys[cp xs ys]? = some y → x ≠ y
  | [], _, x, y, h, _ => by simp at h
  | _ :: _, [], x, y, _, h => by simp at h
  | a :: xs, b :: ys, x, y, h1, h2 => by
    simp only [cp] at h1 h2
    split at h1
    · rename_i e
      rw [if_pos e] at h2
      exact cp_ne xs ys x y (by simpa using h1) (by simpa using h2)
    · rename_i e
      rw [if_neg e] at h2
      simp at h1 h2
      subst h1; subst h2
      exact e
/-- What Once tells, if the first is no longer. -/
def onB (xs ys : List Int) : Bool :=
  if xs.length + 1 < ys.length then false
  else if xs.length = ys.length then decide (cp xs ys < xs.length) && decide (xs.drop (cp xs ys + 1) = ys.drop (cp xs ys + 1))
  else decide (xs.drop (cp xs ys) = ys.drop (cp xs ys + 1))
theorem lv_split (xs ys : List Int) : lv xs ys = lv (xs.drop (cp xs ys)) (ys.drop (cp xs ys)) := by
  have h := lv_pre (xs.take (cp xs ys)) (xs.drop (cp xs ys)) (ys.drop (cp xs ys))
  have e : ys.take (cp xs ys) ++ ys.drop (cp xs ys) = ys := List.take_append_drop _ _
  rw [List.take_append_drop] at h
  rw [cp_take, e] at h
  exact h
theorem drop_cons {xs : List Int} {n : Nat} (h : n < xs.length) : ∃ x, xs[n]? = some x ∧ xs.drop n = x :: xs.drop (n + 1) :=
  ⟨xs[n], List.getElem?_eq_getElem h, List.drop_eq_getElem_cons h⟩
theorem onB_lv {xs ys : List Int} (h : xs.length ≤ ys.length) : onB xs ys = decide (lv xs ys = 1) := by
  have hc := cp_le xs ys
  unfold onB
  by_cases h1 : xs.length + 1 < ys.length
  · rw [if_pos h1]
    have := lv_bds xs ys
    symm; apply decide_eq_false; omega
  rw [if_neg h1]
  have hs := lv_split xs ys
  by_cases h2 : xs.length = ys.length
  · rw [if_pos h2]
    by_cases h3 : cp xs ys < xs.length
    · obtain ⟨x, hx, ex⟩ := drop_cons h3
      obtain ⟨y, hy, ey⟩ := drop_cons (xs := ys) (n := cp xs ys) (by omega)
      have hne := cp_ne xs ys x y hx hy
      rw [ex, ey, lv_cons, if_neg hne] at hs
      rw [decide_eq_true h3, Bool.true_and]
      apply decide_eq_decide.2
      rw [hs]
      constructor
      · intro e; rw [e, lv_self]; omega
      · intro e
        have l1 := lv_bds (xs.drop (cp xs ys + 1)) (y :: ys.drop (cp xs ys + 1))
        have l2 := lv_bds (x :: xs.drop (cp xs ys + 1)) (ys.drop (cp xs ys + 1))
        simp only [List.length_cons, List.length_drop] at l1 l2
        exact lv_zero.1 (by omega)
    · rw [decide_eq_false h3, Bool.false_and]
      have e1 : xs.drop (cp xs ys) = [] := List.drop_of_length_le (by omega)
      have e2 : ys.drop (cp xs ys) = [] := List.drop_of_length_le (by omega)
      rw [e1, e2, lv_left] at hs
      symm; apply decide_eq_false; rw [hs]; simp
  · rw [if_neg h2]
    obtain ⟨y, hy, ey⟩ := drop_cons (xs := ys) (n := cp xs ys) (by omega)
    apply decide_eq_decide.2
    rw [ey] at hs
    by_cases h3 : cp xs ys < xs.length
    · obtain ⟨x, hx, ex⟩ := drop_cons h3
      have hne := cp_ne xs ys x y hx hy
      rw [ex, lv_cons, if_neg hne] at hs
      rw [hs, ex]
      constructor
      · intro e; rw [e, lv_self]; omega
      · intro e
        have l1 := lv_bds (xs.drop (cp xs ys + 1)) (y :: ys.drop (cp xs ys + 1))
        have l2 := lv_bds (xs.drop (cp xs ys + 1)) (ys.drop (cp xs ys + 1))
        simp only [List.length_cons, List.length_drop] at l1 l2
        exact lv_zero.1 (by omega)
    · have e1 : xs.drop (cp xs ys) = [] := List.drop_of_length_le (by omega)
      have e2 : ys.drop (cp xs ys + 1) = [] := List.drop_of_length_le (by omega)
      rw [e1, e2, lv_left] at hs
      rw [e1, e2, hs]
      simp
end Ed
/-- A row of runes with its capacity. -/
def RunesC (E : Nat) (w : World) (v : Value) (xs : List Int) : Prop := RunesAt E w v xs ∧ ∀ ad n cap, v = .slice ad n cap → n ≤ cap
theorem Made.runesC {B : Nat} {w : World} {v : Value} {xs : List Int} (h : Made B w v xs) : RunesC w.heap.size w v xs := by
  refine ⟨h.runes, ?_⟩
  obtain ⟨hl, hn | ⟨g, cap, cur, rfl, hb, hg, h1, h2, h3, h4⟩⟩ := h
  · obtain ⟨rfl, h0⟩ := hn
    intro ad n cap e; cases e; exact Nat.le_refl _
  · intro ad n c e; simp only [Value.slice.injEq] at e; obtain ⟨_, rfl, rfl⟩ := e; exact h1

/-- What a slice is from k on. -/
def slF (ad : Option Addr) (n cap k : Nat) : Value := .slice (if cap = k then ad else ad.map (·.add k)) (n - k) (cap - k)
theorem exec_from {ρ : Operand → Value} {x lo : Operand} {dst : Option Tmp} {ty : TypeId} {pos : String} {af : Array Edge} {g : Option (Nat × Bool)} {w : World} {ad : Option Addr} {n cap k : Nat} {K : Int} (hx : ρ x = .slice ad n cap) (hlo : ρ lo = .int .i64 K) (hK : K = (k : Int)) (hk : k ≤ n) :
    (execOp ρ ⟨dst, .slice 28 x (some lo) none none, ty, pos, af, g⟩).run Tryd.prog w = .ok (.value (slF ad n cap k)) w := by
  subst hK
  obtain ⟨i0, hi, hz0, hz1, hz2⟩ := info_parts infoRune
  have hsz : (sizeOf 21).run Tryd.prog w = .ok 1 w := by simp [sizeOf, typeInfo, hi, hz1]
  have hb : (Instr.sliceBounds true n cap (some (.int .i64 (k : Int))) none none).run Tryd.prog w = .ok (k, n, cap) w := by
    unfold Instr.sliceBounds
    simp only [Sem.run_bind, Sem.run_pure, Result.andThen_ok, run_sliceBound (P := Tryd.prog) w .i64 (k : Int) n _ (by omega) (by omega), Int.toNat_natCast]
  unfold execOp
  simp only [hx, hlo, Option.map_some, Option.map_none, Sem.run_bind, run_sliceAt_slice (P := Tryd.prog) w 28 _ _ _ _ (by kernel_rfl), Instr.slice, run_underlying Tryd.underlying28, Result.andThen_ok, hb, hsz, Sem.run_pure, Nat.mul_one, slF]
theorem row_from {w : World} {E : Nat} {ad : Option Addr} {n cap k : Nat} {xs : List Int} (h : RunesAt E w (.slice ad n cap) xs) (hk : k ≤ n) (hc : n ≤ cap) : Row w (slF ad n cap k) (xs.drop k) := by
  obtain ⟨ad', cap', e, hx⟩ := h
  simp only [Value.slice.injEq] at e
  obtain ⟨rfl, rfl, rfl⟩ := e
  unfold slF
  refine ⟨_, _, by rw [List.length_drop], fun h0 => ?_⟩
  rw [List.length_drop] at h0
  obtain ⟨g, off, rfl, _, hcell⟩ := hx (by omega)
  refine ⟨g, off + k, ?_, fun i hi => ?_⟩
  · rw [if_neg (by omega)]
    simp only [Option.map_some, Addr.add]
    split <;> simp_all
  · rw [List.length_drop] at hi
    have := hcell (k + i) (xs[k + i]'(by omega)) (List.getElem?_eq_getElem (by omega))
    rw [Nat.add_assoc, this]
    congr 2
    rw [List.getD_eq_getElem?_getD, List.getElem?_drop, List.getElem?_eq_getElem (by omega)]
    rfl
/-- Draws alone. -/
def Dn (w w' : World) : Prop := ∃ n, w' = w.drewN n
theorem Dn.trans {a b c : World} (h : Dn a b) (k : Dn b c) : Dn a c := by
  obtain ⟨n, rfl⟩ := h; obtain ⟨m, rfl⟩ := k
  exact ⟨_, by rw [World.drewN_drewN]⟩
theorem Dn.drew (w : World) : Dn w w.drew := ⟨1, rfl⟩
theorem Dn.heap {w w' : World} (h : Dn w w') : w'.heap = w.heap := by obtain ⟨n, rfl⟩ := h; rfl
theorem RunesAt.dn {E : Nat} {w w' : World} {v : Value} {xs : List Int} (h : RunesAt E w v xs) (hd : Dn w w') : RunesAt E w' v xs := by obtain ⟨n, rfl⟩ := hd; exact h

set_option maxHeartbeats 1000000 in
theorem once_le (vx vy : Value) (xs ys : List Int) (w : World) (hx : RunesC w.heap.size w vx xs) (hy : RunesC w.heap.size w vy ys) (hl : xs.length ≤ ys.length) (hyl : ys.length ≤ 1000000) :
    Calls Tryd.prog 17 #[vx, vy] w fun e w' => e = .returned (.bool (onB xs ys)) ∧ ∃ n, w' = w.drewN n := by
  obtain ⟨adx, capx, rfl⟩ := hx.1.form
  obtain ⟨ady, capy, rfl⟩ := hy.1.form
  have hcx := hx.2 _ _ _ rfl
  have hcy := hy.2 _ _ _ rfl
  have HX : Hid (RunesAt w.heap.size w (.slice adx xs.length capx) xs) := hx.1
  have HY : Hid (RunesAt w.heap.size w (.slice ady ys.length capy) ys) := hy.1
  clear hx hy
  have hw1 : IntKind.i64.wrap ((xs.length : Int) + 1) = (xs.length : Int) + 1 := by rw [IntKind.wrap_i64]; omega
  by_cases h1 : xs.length + 1 < ys.length
  · have HF : Hid (onB xs ys = false) := by unfold Hid onB; rw [if_pos h1]
    go_enter Tryd.func17, Tryd.ntmps17
    go_wp2
    go_ret
    exact ⟨by rw [HF.out]; rfl, 0, rfl⟩
  go_enter Tryd.func17, Tryd.ntmps17
  go_wp2
  go_loopw [5] (fun i wr => ∃ k : Nat, k ≤ cp xs ys ∧ i = .int .i64 k ∧ ∃ n, wr = w.drewN n) (fun i _ => cp xs ys - (intOf i).toNat)
  case atStart => exact ⟨0, Nat.zero_le _, rfl, 0, rfl⟩
  case round =>
    obtain ⟨k, hk, rfl, nw, rfl⟩ := hrel
    have hcp := cp_le xs ys
    by_cases hlt : k < cp xs ys
    · obtain ⟨x, hx⟩ : ∃ x, xs[k]? = some x := ⟨_, List.getElem?_eq_getElem (by omega)⟩
      have hy : ys[k]? = some x := by rw [← cp_lt xs ys k hlt]; exact hx
      obtain ⟨gx, offx, rfl, hgx, hcx1⟩ := HX.out.at hx
      obtain ⟨gy, offy, rfl, hgy, hcy1⟩ := HY.out.at hy
      clear hx hy
      have hkx : (k : Int) < (xs.length : Int) := by omega
      have hky : (k : Int) < (ys.length : Int) := by omega
      have hkd : decide ((k : Int) < (xs.length : Int)) = true := decide_eq_true hkx
      have hxx : (x == x) = true := by simp
      go_wp2
      go_quiet (fail)
      go_wp2
      go_roundw
      case rel => exact ⟨k + 1, by omega, by go_num, _, rfl⟩
      case measure => simp [intOf]; omega
    · have hke : k = cp xs ys := by omega
      have HK : Hid (k = cp xs ys) := hke
      have hkl : k ≤ xs.length := by omega
      clear hke hlt hk
      by_cases hkx : k < xs.length
      · obtain ⟨x, hx⟩ : ∃ x, xs[k]? = some x := ⟨_, List.getElem?_eq_getElem hkx⟩
        obtain ⟨y, hy⟩ : ∃ y, ys[k]? = some y := ⟨_, List.getElem?_eq_getElem (by omega)⟩
        have hxy : (x == y) = false := by
          have := cp_ne xs ys x y (by rw [← HK.out]; exact hx) (by rw [← HK.out]; exact hy)
          simpa using this
        obtain ⟨gx, offx, rfl, hgx, hcx1⟩ := HX.out.at hx
        obtain ⟨gy, offy, rfl, hgy, hcy1⟩ := HY.out.at hy
        have hkd : decide ((k : Int) < (xs.length : Int)) = true := decide_eq_true (by omega)
        have hky : (k : Int) < (ys.length : Int) := by omega
        clear hx hy
        by_cases h2 : xs.length = ys.length
        · have h2b : ((xs.length : Int) == (ys.length : Int)) = true := by rw [h2]; simp
          have HF : Hid (onB xs ys = decide (xs.drop (k + 1) = ys.drop (k + 1))) := by
            unfold Hid onB
            rw [if_neg h1, if_pos h2, ← HK.out, decide_eq_true hkx, Bool.true_and]
          clear h2
          have hwk : IntKind.i64.wrap ((k : Int) + 1) = (k : Int) + 1 := by rw [IntKind.wrap_i64]; omega
          go_wp2
          go_quiet (fail)
          go_wp2
          obtain ⟨W0, hW0⟩ : ∃ W0, W0 = w.drewN (nw + nq) := ⟨_, rfl⟩
          have hD0 : Dn w W0 := ⟨_, hW0⟩
          rw [← hW0]
          clear hW0
          have RX : Hid (RunesAt w.heap.size W0.drew (.slice (some ⟨gx, offx, none⟩) xs.length capx) xs) := HX.out.dn (hD0.trans (Dn.drew _))
          have RY : Hid (RunesAt w.heap.size W0.drew (.slice (some ⟨gy, offy, none⟩) ys.length capy) ys) := HY.out.dn (hD0.trans (Dn.drew _))
          refine region_at (S := fun _ => True) 16 rfl mixedP trivial (fun _ => ?_)
          refine take_at (i := 0) 42 rfl rfl (by kernel_rfl) (by kernel_rfl) (by kernel_rfl) (fun _ _ _ h => h) (by rfl) (fun w hSw => by (have hSw2 := id hSw; clear hSw; go_simp; first | done | exact rfl)) (by assumption) ?_
          simp only [List.setIfInBounds_toArray, List.set_cons_zero, List.set_cons_succ]
          refine take_at (i := 1) 43 rfl rfl (by kernel_rfl) (by kernel_rfl) (by kernel_rfl) (fun _ _ _ h => h) (by rfl) (fun w hSw => by (have hSw2 := id hSw; clear hSw; go_simp; first | done | exact rfl)) (by assumption) ?_
          simp only [List.setIfInBounds_toArray, List.set_cons_zero, List.set_cons_succ]
          refine take_at (i := 2) 44 rfl rfl (by kernel_rfl) (by kernel_rfl) (by kernel_rfl) (fun _ _ _ h => h) (by rfl) (fun w hSw => by (have hSw2 := id hSw; clear hSw; go_simp; first | done | exact rfl)) (by assumption) ?_
          simp only [List.setIfInBounds_toArray, List.set_cons_zero, List.set_cons_succ]
          refine take_at (i := 3) 45 rfl rfl (by kernel_rfl) (by kernel_rfl) (by kernel_rfl) (fun _ _ _ h => h) (by rfl) (fun w hSw => by (have hSw2 := id hSw; clear hSw; go_simp; first | done | exact rfl)) (by assumption) ?_
          simp only [List.setIfInBounds_toArray, List.set_cons_zero, List.set_cons_succ]
          refine take_at (i := 4) 46 rfl rfl (by kernel_rfl) (by kernel_rfl) (by kernel_rfl) (fun _ _ _ h => h) (by rfl) (fun w hSw => by (have hSw2 := id hSw; clear hSw; go_simp; first | done | exact rfl)) (by assumption) ?_
          simp only [List.setIfInBounds_toArray, List.set_cons_zero, List.set_cons_succ]
          refine take_at (i := 5) 47 rfl rfl (by kernel_rfl) (by kernel_rfl) (by kernel_rfl) (fun _ _ _ h => h) (by rfl) (fun w hSw => by (have hSw2 := id hSw; clear hSw; go_simp; first | done | exact rfl)) (by assumption) ?_
          simp only [List.setIfInBounds_toArray, List.set_cons_zero, List.set_cons_succ]
          refine take_at (i := 6) 48 rfl rfl (by kernel_rfl) (by kernel_rfl) (by kernel_rfl) (fun _ _ _ h => h) (by rfl) (fun w hSw => by (have hSw2 := id hSw; clear hSw; go_simp; first | done | exact rfl)) (by assumption) ?_
          simp only [List.setIfInBounds_toArray, List.set_cons_zero, List.set_cons_succ]
          refine take_at (i := 7) 49 rfl rfl (by kernel_rfl) (by kernel_rfl) (by kernel_rfl) (fun _ _ _ h => h) (by rfl) (fun w hSw => by (have hSw2 := id hSw; clear hSw; go_simp; first | done | exact rfl)) (by assumption) ?_
          simp only [List.setIfInBounds_toArray, List.set_cons_zero, List.set_cons_succ]
          refine take_at (i := 8) 50 rfl rfl (by kernel_rfl) (by kernel_rfl) (by kernel_rfl) (fun _ _ _ h => h) (by rfl) (fun w _ => exec_from (k := k + 1) rfl rfl (by simp) (by omega)) (by assumption) ?_
          simp only [List.setIfInBounds_toArray, List.set_cons_zero, List.set_cons_succ]
          refine take_at (i := 9) 51 rfl rfl (by kernel_rfl) (by kernel_rfl) (by kernel_rfl) (fun _ _ _ h => h) (by rfl) (fun w hSw => by (have hSw2 := id hSw; clear hSw; go_simp; first | done | exact rfl)) (by assumption) ?_
          simp only [List.setIfInBounds_toArray, List.set_cons_zero, List.set_cons_succ]
          refine take_at (i := 10) 52 rfl rfl (by kernel_rfl) (by kernel_rfl) (by kernel_rfl) (fun _ _ _ h => h) (by rfl) (fun w hSw => by (have hSw2 := id hSw; clear hSw; go_simp; first | done | exact rfl)) (by assumption) ?_
          simp only [List.setIfInBounds_toArray, List.set_cons_zero, List.set_cons_succ]
          refine take_at (i := 11) 53 rfl rfl (by kernel_rfl) (by kernel_rfl) (by kernel_rfl) (fun _ _ _ h => h) (by rfl) (fun w hSw => by (have hSw2 := id hSw; clear hSw; go_simp; first | done | exact rfl)) (by assumption) ?_
          simp only [List.setIfInBounds_toArray, List.set_cons_zero, List.set_cons_succ]
          refine take_at (i := 12) 54 rfl rfl (by kernel_rfl) (by kernel_rfl) (by kernel_rfl) (fun _ _ _ h => h) (by rfl) (fun w _ => exec_from (k := k + 1) rfl rfl (by simp) (by omega)) (by assumption) ?_
          simp only [List.setIfInBounds_toArray, List.set_cons_zero, List.set_cons_succ]
          refine one_call (i := 13) (w0 := W0.drew) 55 25 #[slF (some ⟨gx, offx, none⟩) xs.length capx (k + 1), slF (some ⟨gy, offy, none⟩) ys.length capy (k + 1)] (by kernel_rfl) rfl rfl (by rfl) (by kernel_rfl) ?_
          refine (Same_any _ _ (xs.drop (k + 1)) (ys.drop (k + 1)) _ (row_from RX.out (by omega) hcx) (row_from RY.out (by omega) hcy) (by simp; omega) (by simp; omega)).mono ?_
          rintro e w5 ⟨rfl, hw5⟩
          refine ⟨_, rfl, trivial, fun _ => ?_⟩
          simp only [List.setIfInBounds_toArray, List.set_cons_zero, List.set_cons_succ]
          refine take_at (i := 14) 56 rfl rfl (by kernel_rfl) (by kernel_rfl) (by kernel_rfl) (fun _ _ _ h => h) (by rfl) (fun w hSw => by (have hSw2 := id hSw; clear hSw; go_simp; first | done | exact rfl)) (by assumption) ?_
          simp only [List.setIfInBounds_toArray, List.set_cons_zero, List.set_cons_succ]
          refine one_value (i := 15) (v := .bool (decide (xs.drop (k + 1) = ys.drop (k + 1)))) (w' := w5) 4 (by kernel_rfl) rfl rfl (by rfl) (by kernel_rfl) trivial (fun _ => ?_)
          simp only [List.setIfInBounds_toArray, List.set_cons_zero, List.set_cons_succ]
          refine wpAnyH_done (by kernel_rfl) ?_ _
          go_wp2
          go_ret
          exact ⟨by rw [HF.out]; rfl, (hD0.trans (Dn.drew _)).trans hw5⟩
        · have h2b : ((xs.length : Int) == (ys.length : Int)) = false := by simp; omega
          have hwk : IntKind.i64.wrap ((k : Int) + 1) = (k : Int) + 1 := by rw [IntKind.wrap_i64]; omega
          go_wp2
          go_quiet (fail)
          go_wp2
          obtain ⟨W0, hW0⟩ : ∃ W0, W0 = w.drewN (nw + nq) := ⟨_, rfl⟩
          have hD0 : Dn w W0 := ⟨_, hW0⟩
          rw [← hW0]
          clear hW0
          obtain ⟨adx, hadx⟩ : ∃ adx, adx = (some ⟨gx, offx, none⟩ : Option Addr) := ⟨_, rfl⟩
          obtain ⟨ady, hady⟩ : ∃ ady, ady = (some ⟨gy, offy, none⟩ : Option Addr) := ⟨_, rfl⟩
          rw [← hadx, ← hady]
          have RX : Hid (RunesAt w.heap.size W0.drew (.slice adx xs.length capx) xs) := by rw [hadx]; exact HX.out.dn (hD0.trans (Dn.drew _))
          have RY : Hid (RunesAt w.heap.size W0.drew (.slice ady ys.length capy) ys) := by rw [hady]; exact HY.out.dn (hD0.trans (Dn.drew _))
          clear hadx hady
          have HF : Hid (onB xs ys = decide (xs.drop k = ys.drop (k + 1))) := by
            unfold Hid onB
            rw [if_neg h1, if_neg h2, ← HK.out]
          refine region_at (S := fun _ => True) 9 rfl mixedP trivial (fun _ => ?_)
          refine take_at (i := 0) 57 rfl rfl (by kernel_rfl) (by kernel_rfl) (by kernel_rfl) (fun _ _ _ h => h) (by rfl) (fun w hSw => by (have hSw2 := id hSw; clear hSw; go_simp; first | done | exact rfl)) (by assumption) ?_
          simp only [List.setIfInBounds_toArray, List.set_cons_zero, List.set_cons_succ]
          refine take_at (i := 1) 58 rfl rfl (by kernel_rfl) (by kernel_rfl) (by kernel_rfl) (fun _ _ _ h => h) (by rfl) (fun w hSw => by (have hSw2 := id hSw; clear hSw; go_simp; first | done | exact rfl)) (by assumption) ?_
          simp only [List.setIfInBounds_toArray, List.set_cons_zero, List.set_cons_succ]
          refine take_at (i := 2) 59 rfl rfl (by kernel_rfl) (by kernel_rfl) (by kernel_rfl) (fun _ _ _ h => h) (by rfl) (fun w _ => exec_from (k := k) rfl rfl (by simp) (by omega)) (by assumption) ?_
          simp only [List.setIfInBounds_toArray, List.set_cons_zero, List.set_cons_succ]
          refine take_at (i := 3) 60 rfl rfl (by kernel_rfl) (by kernel_rfl) (by kernel_rfl) (fun _ _ _ h => h) (by rfl) (fun w hSw => by (have hSw2 := id hSw; clear hSw; go_simp; first | done | exact rfl)) (by assumption) ?_
          simp only [List.setIfInBounds_toArray, List.set_cons_zero, List.set_cons_succ]
          refine take_at (i := 4) 61 rfl rfl (by kernel_rfl) (by kernel_rfl) (by kernel_rfl) (fun _ _ _ h => h) (by rfl) (fun w hSw => by (have hSw2 := id hSw; clear hSw; go_simp; first | done | exact rfl)) (by assumption) ?_
          simp only [List.setIfInBounds_toArray, List.set_cons_zero, List.set_cons_succ]
          refine take_at (i := 5) 62 rfl rfl (by kernel_rfl) (by kernel_rfl) (by kernel_rfl) (fun _ _ _ h => h) (by rfl) (fun w hSw => by (have hSw2 := id hSw; clear hSw; go_simp; first | done | exact rfl)) (by assumption) ?_
          simp only [List.setIfInBounds_toArray, List.set_cons_zero, List.set_cons_succ]
          refine take_at (i := 6) 63 rfl rfl (by kernel_rfl) (by kernel_rfl) (by kernel_rfl) (fun _ _ _ h => h) (by rfl) (fun w _ => exec_from (k := k + 1) rfl rfl (by simp) (by omega)) (by assumption) ?_
          simp only [List.setIfInBounds_toArray, List.set_cons_zero, List.set_cons_succ]
          refine one_call (i := 7) (w0 := W0.drew) 64 25 #[slF adx xs.length capx k, slF ady ys.length capy (k + 1)] (by kernel_rfl) rfl rfl (by rfl) (by kernel_rfl) ?_
          refine (Same_any _ _ (xs.drop k) (ys.drop (k + 1)) _ (row_from RX.out (by omega) hcx) (row_from RY.out (by omega) hcy) (by simp; omega) (by simp; omega)).mono ?_
          rintro e w5 ⟨rfl, hw5⟩
          refine ⟨_, rfl, trivial, fun _ => ?_⟩
          simp only [List.setIfInBounds_toArray, List.set_cons_zero, List.set_cons_succ]
          refine one_value (i := 8) (v := .bool (decide (xs.drop k = ys.drop (k + 1)))) (w' := w5) 4 (by kernel_rfl) rfl rfl (by rfl) (by kernel_rfl) trivial (fun _ => ?_)
          simp only [List.setIfInBounds_toArray, List.set_cons_zero, List.set_cons_succ]
          refine wpAnyH_done (by kernel_rfl) ?_ _
          go_wp2
          go_ret
          exact ⟨by rw [HF.out]; rfl, (hD0.trans (Dn.drew _)).trans hw5⟩
      · have hkd : decide ((k : Int) < (xs.length : Int)) = false := decide_eq_false (by omega)
        by_cases h2 : xs.length = ys.length
        · have h2b : ((xs.length : Int) == (ys.length : Int)) = true := by rw [h2]; simp
          have HF : Hid (onB xs ys = false) := by
            unfold Hid onB
            rw [if_neg h1, if_pos h2, ← HK.out, decide_eq_false hkx, Bool.false_and]
          clear h2
          go_wp2
          go_quiet (fail)
          go_wp2
          obtain ⟨W0, hW0⟩ : ∃ W0, W0 = w.drewN (nw + nq) := ⟨_, rfl⟩
          have hD0 : Dn w W0 := ⟨_, hW0⟩
          rw [← hW0]
          clear hW0
          go_quiet (fail)
          go_wp2
          go_ret
          exact ⟨by rw [HF.out]; rfl, hD0.trans ⟨_, rfl⟩⟩
        · have h2b : ((xs.length : Int) == (ys.length : Int)) = false := by simp; omega
          have hwk : IntKind.i64.wrap ((k : Int) + 1) = (k : Int) + 1 := by rw [IntKind.wrap_i64]; omega
          go_wp2
          go_quiet (fail)
          go_wp2
          obtain ⟨W0, hW0⟩ : ∃ W0, W0 = w.drewN (nw + nq) := ⟨_, rfl⟩
          have hD0 : Dn w W0 := ⟨_, hW0⟩
          rw [← hW0]
          clear hW0
          have RX : Hid (RunesAt w.heap.size W0.drew (.slice adx xs.length capx) xs) := HX.out.dn (hD0.trans (Dn.drew _))
          have RY : Hid (RunesAt w.heap.size W0.drew (.slice ady ys.length capy) ys) := HY.out.dn (hD0.trans (Dn.drew _))
          have HF : Hid (onB xs ys = decide (xs.drop k = ys.drop (k + 1))) := by
            unfold Hid onB
            rw [if_neg h1, if_neg h2, ← HK.out]
          refine region_at (S := fun _ => True) 9 rfl mixedP trivial (fun _ => ?_)
          refine take_at (i := 0) 57 rfl rfl (by kernel_rfl) (by kernel_rfl) (by kernel_rfl) (fun _ _ _ h => h) (by rfl) (fun w hSw => by (have hSw2 := id hSw; clear hSw; go_simp; first | done | exact rfl)) (by assumption) ?_
          simp only [List.setIfInBounds_toArray, List.set_cons_zero, List.set_cons_succ]
          refine take_at (i := 1) 58 rfl rfl (by kernel_rfl) (by kernel_rfl) (by kernel_rfl) (fun _ _ _ h => h) (by rfl) (fun w hSw => by (have hSw2 := id hSw; clear hSw; go_simp; first | done | exact rfl)) (by assumption) ?_
          simp only [List.setIfInBounds_toArray, List.set_cons_zero, List.set_cons_succ]
          refine take_at (i := 2) 59 rfl rfl (by kernel_rfl) (by kernel_rfl) (by kernel_rfl) (fun _ _ _ h => h) (by rfl) (fun w _ => exec_from (k := k) rfl rfl (by simp) (by omega)) (by assumption) ?_
          simp only [List.setIfInBounds_toArray, List.set_cons_zero, List.set_cons_succ]
          refine take_at (i := 3) 60 rfl rfl (by kernel_rfl) (by kernel_rfl) (by kernel_rfl) (fun _ _ _ h => h) (by rfl) (fun w hSw => by (have hSw2 := id hSw; clear hSw; go_simp; first | done | exact rfl)) (by assumption) ?_
          simp only [List.setIfInBounds_toArray, List.set_cons_zero, List.set_cons_succ]
          refine take_at (i := 4) 61 rfl rfl (by kernel_rfl) (by kernel_rfl) (by kernel_rfl) (fun _ _ _ h => h) (by rfl) (fun w hSw => by (have hSw2 := id hSw; clear hSw; go_simp; first | done | exact rfl)) (by assumption) ?_
          simp only [List.setIfInBounds_toArray, List.set_cons_zero, List.set_cons_succ]
          refine take_at (i := 5) 62 rfl rfl (by kernel_rfl) (by kernel_rfl) (by kernel_rfl) (fun _ _ _ h => h) (by rfl) (fun w hSw => by (have hSw2 := id hSw; clear hSw; go_simp; first | done | exact rfl)) (by assumption) ?_
          simp only [List.setIfInBounds_toArray, List.set_cons_zero, List.set_cons_succ]
          refine take_at (i := 6) 63 rfl rfl (by kernel_rfl) (by kernel_rfl) (by kernel_rfl) (fun _ _ _ h => h) (by rfl) (fun w _ => exec_from (k := k + 1) rfl rfl (by simp) (by omega)) (by assumption) ?_
          simp only [List.setIfInBounds_toArray, List.set_cons_zero, List.set_cons_succ]
          refine one_call (i := 7) (w0 := W0.drew) 64 25 #[slF adx xs.length capx k, slF ady ys.length capy (k + 1)] (by kernel_rfl) rfl rfl (by rfl) (by kernel_rfl) ?_
          refine (Same_any _ _ (xs.drop k) (ys.drop (k + 1)) _ (row_from RX.out (by omega) hcx) (row_from RY.out (by omega) hcy) (by simp; omega) (by simp; omega)).mono ?_
          rintro e w5 ⟨rfl, hw5⟩
          refine ⟨_, rfl, trivial, fun _ => ?_⟩
          simp only [List.setIfInBounds_toArray, List.set_cons_zero, List.set_cons_succ]
          refine one_value (i := 8) (v := .bool (decide (xs.drop k = ys.drop (k + 1)))) (w' := w5) 4 (by kernel_rfl) rfl rfl (by rfl) (by kernel_rfl) trivial (fun _ => ?_)
          simp only [List.setIfInBounds_toArray, List.set_cons_zero, List.set_cons_succ]
          refine wpAnyH_done (by kernel_rfl) ?_ _
          go_wp2
          go_ret
          exact ⟨by rw [HF.out]; rfl, (hD0.trans (Dn.drew _)).trans hw5⟩
end Go.Proofs.YtjfbildaaobfpaaDoor
