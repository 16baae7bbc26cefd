/- Texts that were written apart, joined. -/
import Derived.Test.YtpmmpdkeahmdiaaBase
import Derived.Handy
import Derived.Test.YtpmmpdkeahmdiaaSecsOk
/- The reference of the disk: its numbers. -/
namespace Go.Proofs.Ytpmmpdkeahmdiaa
open Go.RowKit
set_option maxRecDepth 100000

/-- The numbers of the reference's disk; its sectors lie in a slice of their own. -/
structure RD where
  room : Int
  steps : Int
  left : Int
  armed : Bool
  dead : Bool
def rdV (r : RD) (l : Value) : Value := .agg #[.int .i64 r.room, .int .i64 r.steps, .int .i64 r.left, .bool r.armed, .bool r.dead, l]
def rdNew (room : Int) : RD := ⟨max room 0, 0, 0, false, false⟩
def rdDies (r : RD) : Bool := r.armed && r.left == 0
def rdStep (r : RD) : RD := if rdDies r then { r with steps := r.steps + 1, dead := true } else if r.armed then { r with steps := r.steps + 1, left := r.left - 1 } else { r with steps := r.steps + 1 }
def rdArm (r : RD) (at_ : Int) : RD := if r.dead then r else { r with armed := decide (0 ≤ at_), left := at_ }
set_option maxHeartbeats 2000000 in
theorem refNew_any (room : Int) (w : World) : Calls Try.prog 34 #[.int .i64 room] w fun e w' => e = .returned (rdV (rdNew room) (.slice none 0 0)) ∧ Below w.heap.size w w' := by
  unfold rdV rdNew
  obtain ⟨m, hm⟩ : ∃ m, max room 0 = m := ⟨_, rfl⟩
  have hi : (if room < 0 then (0 : Int) else room) = m := by rw [← hm]; split <;> omega
  simp only [hm]
  go_enter Try.func34, Try.ntmps34
  go_wp2
  go_returns
  exact ⟨rfl, (Below.refl _ w).alloc (Nat.le_refl _) _⟩
set_option maxHeartbeats 2000000 in
theorem refArm_any (r : RD) (ad : Option Addr) (n c : Nat) (at_ : Int) (w : World) : Calls Try.prog 50 #[rdV r (.slice ad n c), .int .i64 at_] w fun e w' => e = .returned (rdV (rdArm r at_) (.slice ad n c)) ∧ Below w.heap.size w w' := by
  obtain ⟨room, steps, left, armed, dead⟩ := r
  unfold rdV rdArm
  cases dead <;>
  · go_enter Try.func50, Try.ntmps50
    go_wp2
    go_returns
    exact ⟨rfl, ((Below.refl _ w).alloc (Nat.le_refl _) _).alloc (by simp) _⟩
set_option maxHeartbeats 4000000 in
theorem refStep_any (r : RD) (ad : Option Addr) (n c : Nat) (w : World) (h1 : 0 ≤ r.steps) (h2 : r.steps < 4611686018427387904) (h3 : -9223372036854775808 ≤ r.left) (h4 : r.left ≤ 9223372036854775807) (h5 : r.armed = true → 0 ≤ r.left) :
    Calls Try.prog 75 #[rdV r (.slice ad n c)] w fun e w' => e = .returned (.tuple #[rdV (rdStep r) (.slice ad n c), .bool (rdDies r)]) ∧ Below w.heap.size w w' := by
  obtain ⟨room, steps, left, armed, dead⟩ := r
  simp only at h1 h2 h3 h4 h5
  unfold rdV rdStep rdDies
  cases armed
  · go_enter Try.func75, Try.ntmps75
    go_wp2
    go_returns
    exact ⟨rfl, ((Below.refl _ w).alloc (Nat.le_refl _) _).alloc (by simp) _⟩
  · have h6 := h5 rfl
    by_cases h0 : left = 0
    · subst h0
      go_enter Try.func75, Try.ntmps75
      go_wp2
      go_returns
      exact ⟨rfl, ((Below.refl _ w).alloc (Nat.le_refl _) _).alloc (by simp) _⟩
    · have h7 : (left == 0) = false := by simp [h0]
      go_enter Try.func75, Try.ntmps75
      go_wp2
      go_returns
      exact ⟨rfl, ((Below.refl _ w).alloc (Nat.le_refl _) _).alloc (by simp) _⟩
end Go.Proofs.Ytpmmpdkeahmdiaa

/- The reference of the disk: where a sector stands. -/
namespace Go.Proofs.Ytpmmpdkeahmdiaa
open Go.RowKit
set_option maxRecDepth 100000

/-- Where the first sector with that area and number stands. -/
def AtSays (A B : Nat → Int) (a m : Int) (n : Nat) (r : Int) : Prop := (∃ i : Nat, i < n ∧ r = i ∧ A i = a ∧ B i = m ∧ ∀ j, j < i → ¬ (A j = a ∧ B j = m)) ∨ (r = -1 ∧ ∀ j, j < n → ¬ (A j = a ∧ B j = m))
set_option maxHeartbeats 4000000 in
theorem refAt_any (r : RD) (g n c : Nat) (A B : Nat → Int) (a m : Int) (w : World) (hg : g < w.heap.size) (hn : n < 1152921504606846976)
    (hA : ∀ i, i < n → w.cell? ⟨g, i * 4, none⟩ = some (.int .u64 (A i))) (hB : ∀ i, i < n → w.cell? ⟨g, i * 4 + 1, none⟩ = some (.int .i64 (B i))) :
    Calls Try.prog 63 #[rdV r (.slice (some ⟨g, 0, none⟩) n c), .int .u64 a, .int .i64 m] w fun e w' => (∃ k, e = .returned (.int .i64 k) ∧ AtSays A B a m n k) ∧ Below w.heap.size w w' := by
  obtain ⟨room, steps, left, armed, dead⟩ := r
  unfold rdV
  obtain ⟨w1, hw1⟩ : ∃ w1, w.alloc (.cells #[.int .i64 room, .int .i64 steps, .int .i64 left, .bool armed, .bool dead, .slice (some ⟨g, 0, none⟩) n c] 27) = w1 := ⟨_, rfl⟩
  have hb : Below w.heap.size w w1 := by rw [← hw1]; exact (Below.refl _ w).alloc (Nat.le_refl _) _
  have hA1 : ∀ i, i < n → w1.cell? ⟨g, i * 4, none⟩ = some (.int .u64 (A i)) := fun i hi => (hb.cell (p := ⟨g, i * 4, none⟩) hg).trans (hA i hi)
  have hB1 : ∀ i, i < n → w1.cell? ⟨g, i * 4 + 1, none⟩ = some (.int .i64 (B i)) := fun i hi => (hb.cell (p := ⟨g, i * 4 + 1, none⟩) hg).trans (hB i hi)
  have hL : w1.cell? ⟨w.heap.size, 5, none⟩ = some (.slice (some ⟨g, 0, none⟩) n c) := by subst hw1; go_simp
  have HB : Hid (Below w.heap.size w w1) := hb
  clear hA hB hb
  go_enter Try.func63, Try.ntmps63
  go_wp2
  try rw [hw1]
  clear hw1
  go_loopw [7] (fun v wr => ∃ i : Nat, v = .int .i64 i ∧ i ≤ n ∧ wr = w1 ∧ ∀ j, j < i → ¬ (A j = a ∧ B j = m)) (fun v _ => n - (intOf v).toNat)
  case atStart => exact ⟨0, rfl, Nat.zero_le _, rfl, fun j hj => by omega⟩
  case round =>
    obtain ⟨i, rfl, hi, rfl, hall⟩ := hrel
    have HAll : Hid (∀ j, j < i → ¬ (A j = a ∧ B j = m)) := hall
    clear hall
    by_cases hin : i < n
    · by_cases h1 : A i = a
      · by_cases h2 : B i = m
        · have e1 : (A i == a) = true := by simp [h1]
          have e2 : (B i == m) = true := by simp [h2]
          go_wp2
          go_ret
          exact ⟨⟨i, by simp, .inl ⟨i, hin, rfl, h1, h2, HAll.out⟩⟩, HB.out⟩
        · have e1 : (A i == a) = true := by simp [h1]
          have e2 : (B i == m) = false := by simp [h2]
          go_wp2
          go_roundw
          case rel => exact ⟨i + 1, by go_num, by omega, (by first | trivial | exact rfl), fun j hj => by
            by_cases e : j = i
            · subst e; exact fun h => h2 h.2
            · exact HAll.out j (by omega)⟩
          case measure => simp [intOf]; omega
      · have e1 : (A i == a) = false := by simp [h1]
        go_wp2
        go_roundw
        case rel => exact ⟨i + 1, by go_num, by omega, (by first | trivial | exact rfl), fun j hj => by
          by_cases e : j = i
          · subst e; exact fun h => h1 h.1
          · exact HAll.out j (by omega)⟩
        case measure => simp [intOf]; omega
    · go_wp2
      go_ret
      exact ⟨⟨-1, by simp, .inr ⟨rfl, fun j hj => HAll.out j (by omega)⟩⟩, HB.out⟩
end Go.Proofs.Ytpmmpdkeahmdiaa

/- The reference of the disk: what is read of a sector. -/
namespace Go.Proofs.Ytpmmpdkeahmdiaa
open Go.RowKit
set_option maxRecDepth 100000

def rsV (a m : Int) (l : Value) (sy : Bool) : Value := .agg #[.int .u64 a, .int .i64 m, l, .bool sy]
set_option maxHeartbeats 2000000 in
theorem refLast_any (a m : Int) (h n c : Nat) (sy : Bool) (v : Value) (w : World) (hh : h < w.heap.size) (hn : 0 < n) (hn2 : n < 1152921504606846976) (hs : ∃ s, v = .string s) (hc : w.cell? ⟨h, n - 1, none⟩ = some v) :
    Calls Try.prog 45 #[rsV a m (.slice (some ⟨h, 0, none⟩) n c) sy] w fun e w' => e = .returned v ∧ Below w.heap.size w w' := by
  unfold rsV
  obtain ⟨s, rfl⟩ := hs
  obtain ⟨k, hk⟩ : ∃ k, n - 1 = k := ⟨_, rfl⟩
  have hki : (n : Int) - 1 = (k : Int) := by omega
  have hkn : k < n := by omega
  rw [hk] at hc
  clear hk
  have hc1 : ∀ o, (w.alloc o).cell? ⟨h, k, none⟩ = some (.string s) := fun o => (((Below.refl w.heap.size w).alloc (Nat.le_refl _) o).cell (p := ⟨h, k, none⟩) hh).trans hc
  go_enter Try.func45, Try.ntmps45
  go_wp2
  go_ret
  exact ⟨by simp, (Below.refl _ w).alloc (Nat.le_refl _) _⟩
end Go.Proofs.Ytpmmpdkeahmdiaa

/- The reference's sectors, as they follow from the disk's. -/
namespace Go.Proofs.Ytpmmpdkeahmdiaa
open Go.RowKit
set_option maxRecDepth 100000

/-- A sector of the reference: its area, number, versions; does the first one last? -/
structure RS where
  area : Int
  n : Int
  vs : List (List Nat)
  sy : Bool
def toRS (s : Sec) : RS := ⟨s.area, s.n, s.last.toList ++ s.fresh, s.last.isSome⟩
/-- The reference's numbers of a disk. -/
def rdOf (d : DS) : RD := ⟨d.room - d.secs.length, d.steps, d.ahead, d.armed, d.dead⟩
theorem rdOf_new (room : Int) : rdOf (newD room) = rdNew room := by unfold rdOf newD rdNew; simp
theorem rdOf_arm (d : DS) (at_ : Int) : rdOf (armD d at_) = rdArm (rdOf d) at_ := by
  unfold armD rdArm rdOf
  cases h : d.dead <;> simp [h]
theorem rdDies_eq (d : DS) (h : d.dead = false) : rdDies (rdOf d) = decide (stepE d ≠ 0) := by
  unfold rdDies rdOf stepE
  rw [h]
  cases d.armed with
  | false => simp
  | true =>
    by_cases h0 : d.ahead = 0
    · simp [h0]
    · simp [h0]
theorem stepE_30 (d : DS) (h : stepE d ≠ 0) : stepE d = 30 := by
  unfold stepE at *
  split
  · rfl
  · rename_i h1
    rw [if_neg h1] at h
    split
    · rfl
    · rename_i h2; rw [if_neg h2] at h; exact absurd rfl h
theorem rdOf_step (d : DS) (h : d.dead = false) : rdOf (stepD d) = rdStep (rdOf d) := by
  have hd : ¬ d.dead = true := by rw [h]; simp
  unfold stepD rdStep rdDies rdOf
  rw [if_neg hd]
  cases ha : d.armed with
  | false => simp
  | true =>
    by_cases h0 : d.ahead = 0
    · simp [h0]
    · simp [h0]
def rsSame (x s : RS) : Bool := x.area == s.area && x.n == s.n
def rsBehind (x s : RS) : Bool := decide (s.area < x.area) || (x.area == s.area && decide (s.n < x.n))
/-- The sectors with s in its place; 'done': it is there already. -/
def putR (s : RS) : Bool → List RS → List RS
  | done, [] => if done then [] else [s]
  | done, x :: r => (if !done && (rsSame x s || rsBehind x s) then [s] else []) ++ ((if rsSame x s then [] else [x]) ++ putR s (done || (rsSame x s || rsBehind x s)) r)
theorem rsSame_iff (x s : RS) : rsSame x s = true ↔ x.area = s.area ∧ x.n = s.n := by simp [rsSame]
theorem rsBehind_iff (x s : RS) : rsBehind x s = true ↔ s.area < x.area ∨ (x.area = s.area ∧ s.n < x.n) := by simp [rsBehind]
theorem putR_done (s : RS) (T : List RS) (h : ∀ x ∈ T, ¬ (x.area = s.area ∧ x.n = s.n)) : putR s true T = T := by
  induction T with
  | nil => rfl
  | cons x r ih =>
    have h1 : rsSame x s = false := by rw [Bool.eq_false_iff, ne_eq, rsSame_iff]; exact h x (.head _)
    rw [putR, h1]
    simp only [Bool.not_true, Bool.false_and, Bool.true_or, Bool.false_eq_true, if_false, List.nil_append, List.singleton_append]
    rw [ih fun y hy => h y (.tail _ hy)]
theorem putR_wr {a n : Int} {v : List Nat} {S : List Sec} (hs : S.Pairwise Sec.before) : putR (toRS (wrS a n v (findS a n S))) false (S.map toRS) = (wr a n v S).map toRS := by
  have key : ∀ o : Option Sec, (∀ s, o = some s → s.area = a ∧ s.n = n) → (toRS (wrS a n v o)).area = a ∧ (toRS (wrS a n v o)).n = n := fun o ho => by
    cases o with
    | none => exact ⟨rfl, rfl⟩
    | some s => exact ho s rfl
  induction S with
  | nil => rfl
  | cons t r ih =>
    obtain ⟨h1, h2⟩ := List.pairwise_cons.1 hs
    obtain ⟨k1, k2⟩ := key (findS a n (t :: r)) (fun s h => findS_at h)
    have far : ∀ s0 : RS, s0.area = a → s0.n = n → (¬ t.before ⟨a, n, none, []⟩) → putR s0 true (r.map toRS) = r.map toRS := fun s0 e1 e2 hb => putR_done _ _ fun x hx => by
      obtain ⟨y, hy, rfl⟩ := List.mem_map.1 hx
      have := h1 y hy
      show ¬ (y.area = s0.area ∧ y.n = s0.n)
      rw [e1, e2]
      unfold Sec.before at this hb
      simp only at hb
      omega
    rw [List.map_cons, putR, wr]
    by_cases he : t.area = a ∧ t.n = n
    · have hsm : rsSame (toRS t) (toRS (wrS a n v (findS a n (t :: r)))) = true := by rw [rsSame_iff, k1, k2]; exact he
      rw [hsm, if_pos he]
      simp only [Bool.not_false, Bool.true_and, Bool.true_or, Bool.or_true, if_true, List.nil_append]
      rw [far _ k1 k2 (by unfold Sec.before; simp only; omega), findS, if_pos he]
      simp [wrS]
    · have hsm : rsSame (toRS t) (toRS (wrS a n v (findS a n (t :: r)))) = false := by rw [Bool.eq_false_iff, ne_eq, rsSame_iff, k1, k2]; exact he
      rw [hsm, if_neg he]
      by_cases hb : a < t.area ∨ (a = t.area ∧ n < t.n)
      · have hbh : rsBehind (toRS t) (toRS (wrS a n v (findS a n (t :: r)))) = true := by
          rw [rsBehind_iff, k1, k2]
          show a < t.area ∨ (t.area = a ∧ n < t.n)
          omega
        rw [hbh, if_pos hb]
        simp only [Bool.not_false, Bool.true_and, Bool.or_true, if_true, Bool.false_eq_true, if_false]
        rw [far _ k1 k2 (by unfold Sec.before; simp only; omega)]
        have hno : findS a n (t :: r) = none := findS_none_of fun y hy => by
          rcases List.mem_cons.1 hy with rfl | hy
          · exact he
          · have := h1 y hy
            unfold Sec.before at this
            omega
        rw [hno]
        simp [wrS]
      · have hbh : rsBehind (toRS t) (toRS (wrS a n v (findS a n (t :: r)))) = false := by
          rw [Bool.eq_false_iff, ne_eq, rsBehind_iff, k1, k2]
          show ¬ (a < t.area ∨ (t.area = a ∧ n < t.n))
          omega
        rw [hbh, if_neg hb]
        have hf : findS a n (t :: r) = findS a n r := by rw [findS, if_neg he]
        rw [hf]
        have := ih h2
        simp only [Bool.not_false, Bool.true_and, Bool.or_self, Bool.false_eq_true, if_false, List.nil_append, List.singleton_append, List.map_cons]
        rw [this]
/-- One step of the walk through the sectors. -/
theorem putR_step (s x : RS) (done : Bool) (acc : List RS) (r : List RS) : acc ++ putR s done (x :: r) = (acc ++ (if !done && (rsSame x s || rsBehind x s) then [s] else []) ++ (if rsSame x s then [] else [x])) ++ putR s (done || (rsSame x s || rsBehind x s)) r := by
  rw [putR]; simp only [List.append_assoc]
def syR (a : Int) (x : RS) : RS := if x.area = a then ⟨a, x.n, [x.vs.getLastD []], true⟩ else x
theorem syR_eq (a : Int) (s : Sec) (h : s.last ≠ none ∨ s.fresh ≠ []) : syR a (toRS s) = toRS (if s.area = a then syS s else s) := by
  unfold syR
  by_cases e : s.area = a
  · rw [if_pos e, if_pos (show (toRS s).area = a from e)]
    have hc : ∃ v, s.cur = some v ∧ (s.last.toList ++ s.fresh).getLastD [] = v := by
      unfold Sec.cur
      rw [List.getLastD_eq_getLast?, List.getLast?_append]
      cases hf : s.fresh.getLast? with
      | some v => exact ⟨v, rfl, rfl⟩
      | none =>
        have hn : s.fresh = [] := List.getLast?_eq_none_iff.1 hf
        cases hl : s.last with
        | none => exact absurd hl (h.resolve_right (fun x => x hn))
        | some v => exact ⟨v, rfl, rfl⟩
    obtain ⟨v, h1, h2⟩ := hc
    simp only [toRS, syS, h1, h2, e, Option.toList_some, Option.isSome_some, List.append_nil]
  · rw [if_neg e, if_neg (show ¬ (toRS s).area = a from e)]
theorem sy_map {a : Int} {S : List Sec} (h : ∀ s ∈ S, s.last ≠ none ∨ s.fresh ≠ []) : (S.map toRS).map (syR a) = (sy a S).map toRS := by
  rw [sy, List.map_map, List.map_map]
  exact List.map_congr_left fun s hs => syR_eq a s (h s hs)
theorem fr_map (a : Int) (S : List Sec) : (S.map toRS).filter (fun x => x.area ≠ a) = (fr a S).map toRS := by
  rw [fr, List.filter_map]; rfl
end Go.Proofs.Ytpmmpdkeahmdiaa

/- The reference's sectors in memory. -/
namespace Go.Proofs.Ytpmmpdkeahmdiaa
open Go.RowKit
set_option maxRecDepth 100000

/-- Strings that lie in memory, in a block of which P is said. -/
def StrsAt (P : Nat → Prop) (w : World) (v : Value) (vs : List (List Nat)) : Prop :=
  ∃ h c, v = .slice (some ⟨h, 0, none⟩) vs.length c ∧ P h ∧ h < w.heap.size ∧ ∀ j u, vs[j]? = some u → w.cell? ⟨h, j, none⟩ = some (.string (strB u))
theorem StrsAt.same {P : Nat → Prop} {w w' : World} {v : Value} {vs : List (List Nat)} (h : StrsAt P w v vs) (hs : w.heap.size ≤ w'.heap.size) (hb : ∀ b, P b → b < w.heap.size → w'.heap[b]? = w.heap[b]?) : StrsAt P w' v vs := by
  obtain ⟨g, c, rfl, hP, hg, hc⟩ := h
  exact ⟨g, c, rfl, hP, Nat.lt_of_lt_of_le hg hs, fun j u hj => (World.cell?_of_block (a := ⟨g, j, none⟩) (hb g hP hg)).trans (hc j u hj)⟩
theorem StrsAt.below {P : Nat → Prop} {w w' : World} {v : Value} {vs : List (List Nat)} (h : StrsAt P w v vs) (hb : Below w.heap.size w w') : StrsAt P w' v vs := h.same hb.size fun b _ hl => hb.block b hl
theorem StrsAt.mono {P Q : Nat → Prop} {w : World} {v : Value} {vs : List (List Nat)} (h : StrsAt P w v vs) (hPQ : ∀ b, b < w.heap.size → P b → Q b) : StrsAt Q w v vs := by
  obtain ⟨g, c, rfl, hP, hg, hc⟩ := h
  exact ⟨g, c, rfl, hPQ g hg hP, hg, hc⟩
/-- A sector, and the slice of its versions. -/
structure RX where
  s : RS
  lv : Value
def RX.cells (x : RX) : List Value := [.int .u64 x.s.area, .int .i64 x.s.n, x.lv, .bool x.s.sy]
def RX.ok (P : Nat → Prop) (w : World) (x : RX) : Prop := StrsAt P w x.lv x.s.vs ∧ x.s.vs ≠ [] ∧ x.s.vs.length ≤ 1099511627778
def RX.val (x : RX) : Value := .agg #[.int .u64 x.s.area, .int .i64 x.s.n, x.lv, .bool x.s.sy]
theorem RX.ok.below {P : Nat → Prop} {w w' : World} {x : RX} (h : x.ok P w) (hb : Below w.heap.size w w') : x.ok P w' := ⟨h.1.below hb, h.2⟩
theorem RX.ok.mono {P Q : Nat → Prop} {w : World} {x : RX} (h : x.ok P w) (hPQ : ∀ b, b < w.heap.size → P b → Q b) : x.ok Q w := ⟨h.1.mono hPQ, h.2⟩
theorem RX.ok.same {P : Nat → Prop} {w w' : World} {x : RX} (h : x.ok P w) (hs : w.heap.size ≤ w'.heap.size) (hb : ∀ b, P b → b < w.heap.size → w'.heap[b]? = w.heap[b]?) : x.ok P w' := ⟨h.1.same hs hb, h.2⟩
def secCells (X : List RX) : List Value := X.flatMap RX.cells
theorem secCells_len (X : List RX) : (secCells X).length = X.length * 4 := by
  induction X with
  | nil => rfl
  | cons x r ih => rw [secCells, List.flatMap_cons, List.length_append]; rw [secCells] at ih; rw [ih]; simp [RX.cells]; omega
theorem secCells_get : ∀ (X : List RX) (i j : Nat) (x : RX), X[i]? = some x → j < 4 → (secCells X)[i * 4 + j]? = x.cells[j]?
  | y :: r, 0, j, x, h, hj => by
    simp only [List.getElem?_cons_zero, Option.some.injEq] at h
    subst h
    rw [secCells, List.flatMap_cons, List.getElem?_append_left (by simp [RX.cells]; omega)]
    simp
  | y :: r, i + 1, j, x, h, hj => by
    have ih := secCells_get r i j x (by simpa using h) hj
    rw [secCells, List.flatMap_cons, List.getElem?_append_right (by simp [RX.cells]; omega)]
    have e : (i + 1) * 4 + j - y.cells.length = i * 4 + j := by simp [RX.cells]; omega
    rw [e]
    exact ih
theorem secCells_snoc (X : List RX) (x : RX) : secCells (X ++ [x]) = secCells X ++ x.cells := by simp [secCells]
structure FourAt (w : World) (g k : Nat) (x : RX) : Prop where
  c0 : w.cell? ⟨g, k, none⟩ = some (.int .u64 x.s.area)
  c1 : w.cell? ⟨g, k + 1, none⟩ = some (.int .i64 x.s.n)
  c2 : w.cell? ⟨g, k + 2, none⟩ = some x.lv
  c3 : w.cell? ⟨g, k + 3, none⟩ = some (.bool x.s.sy)
theorem FourAt.below {w w' : World} {g k : Nat} {x : RX} (h : FourAt w g k x) (hg : g < w.heap.size) (hb : Below w.heap.size w w') : FourAt w' g k x :=
  ⟨(hb.cell (p := ⟨g, k, none⟩) hg).trans h.c0, (hb.cell (p := ⟨g, k + 1, none⟩) hg).trans h.c1, (hb.cell (p := ⟨g, k + 2, none⟩) hg).trans h.c2, (hb.cell (p := ⟨g, k + 3, none⟩) hg).trans h.c3⟩
/-- A row of sectors that lies in memory, in blocks of which P is said. -/
def SecRow (P : Nat → Prop) (w : World) (v : Value) (X : List RX) : Prop :=
  ∃ ad cap, v = .slice ad X.length cap ∧ X.length ≤ 1099511627776 ∧ (0 < X.length → ∃ g, ad = some ⟨g, 0, none⟩ ∧ P g ∧ g < w.heap.size ∧ ∀ i x, X[i]? = some x → FourAt w g (i * 4) x) ∧ ∀ x ∈ X, x.ok P w
theorem SecRow.same {P : Nat → Prop} {w w' : World} {v : Value} {X : List RX} (h : SecRow P w v X) (hs : w.heap.size ≤ w'.heap.size) (hb : ∀ b, P b → b < w.heap.size → w'.heap[b]? = w.heap[b]?) : SecRow P w' v X := by
  obtain ⟨ad, cap, rfl, hl, hc, ho⟩ := h
  refine ⟨ad, cap, rfl, hl, fun h0 => ?_, fun x hx => (ho x hx).same hs hb⟩
  obtain ⟨g, rfl, hP, hg, hx⟩ := hc h0
  refine ⟨g, rfl, hP, Nat.lt_of_lt_of_le hg hs, fun i x hi => ?_⟩
  have hh := hb g hP hg
  obtain ⟨c0, c1, c2, c3⟩ := hx i x hi
  exact ⟨(World.cell?_of_block (a := ⟨g, i * 4, none⟩) hh).trans c0, (World.cell?_of_block (a := ⟨g, i * 4 + 1, none⟩) hh).trans c1, (World.cell?_of_block (a := ⟨g, i * 4 + 2, none⟩) hh).trans c2, (World.cell?_of_block (a := ⟨g, i * 4 + 3, none⟩) hh).trans c3⟩
theorem SecRow.below {P : Nat → Prop} {w w' : World} {v : Value} {X : List RX} (h : SecRow P w v X) (hb : Below w.heap.size w w') : SecRow P w' v X := h.same hb.size fun b _ hl => hb.block b hl
theorem SecRow.mono {P Q : Nat → Prop} {w : World} {v : Value} {X : List RX} (h : SecRow P w v X) (hPQ : ∀ b, b < w.heap.size → P b → Q b) : SecRow Q w v X := by
  obtain ⟨ad, cap, rfl, hl, hc, ho⟩ := h
  refine ⟨ad, cap, rfl, hl, fun h0 => ?_, fun x hx => (ho x hx).mono hPQ⟩
  obtain ⟨g, rfl, hP, hg, hx⟩ := hc h0
  exact ⟨g, rfl, hPQ g hg hP, hg, hx⟩
theorem SecRow.nil (P : Nat → Prop) (w : World) : SecRow P w (.slice none 0 0) [] := ⟨none, 0, rfl, by simp, fun h => by simp at h, fun x hx => by cases hx⟩
theorem SecRow.of_own {P : Nat → Prop} {w : World} {base k : Nat} {v : Value} {X : List RX} (h : w.ownsRow base 95 4 v k (secCells X)) (hk : k = X.length) (hl : X.length ≤ 1099511627776) (hP : ∀ b, base ≤ b → P b) (ho : ∀ x ∈ X, x.ok P w) : SecRow P w v X := by
  subst hk
  obtain ⟨h1, h2⟩ := h
  rcases h2 with ⟨rfl, h0⟩ | ⟨g, cap, cur, rfl, hb, hh, h3, h4, h5, h6⟩
  · rw [List.eq_nil_of_length_eq_zero h0]
    exact SecRow.nil P w
  · refine ⟨some ⟨g, 0, none⟩, cap, rfl, hl, fun _ => ⟨g, rfl, hP g hb, (Array.getElem?_eq_some_iff.1 hh).1, fun i x hi => ?_⟩, ho⟩
    have hil := (List.getElem?_eq_some_iff.1 hi).1
    have cell : ∀ j, j < 4 → w.cell? ⟨g, i * 4 + j, none⟩ = x.cells[j]? := fun j hj => by
      have e := secCells_get X i j x hi hj
      rw [← h6, List.getElem?_take, if_pos (by omega)] at e
      simpa [World.cell?, hh] using e
    exact ⟨cell 0 (by omega), cell 1 (by omega), cell 2 (by omega), cell 3 (by omega)⟩
theorem info_sec : (Try.prog.info? 95).map (fun i => (i.zero, i.size, i.bytes)) = some (some (.agg #[.int .u64 0, .int .i64 0, .slice none 0 0, .bool false]), 4, 48) := by kernel_rfl
theorem RX.cells_one {P : Nat → Prop} {x : RX} {w : World} (h : x.ok P w) : ∀ u ∈ x.cells, u.oneCell' = true := by
  obtain ⟨⟨g, c, e, _⟩, _⟩ := h
  intro u hu
  simp only [RX.cells, List.mem_cons, List.not_mem_nil, or_false] at hu
  rcases hu with rfl | rfl | rfl | rfl
  · rfl
  · rfl
  · rw [e]; rfl
  · rfl
/-- The reference's disk, as a value: it is the disk d; P is said of its blocks. -/
def RefIs (P : Nat → Prop) (w : World) (v : Value) (d : DS) : Prop := ∃ l X, v = rdV (rdOf d) l ∧ SecRow P w l X ∧ X.map RX.s = d.secs.map toRS
theorem RefIs.same {P : Nat → Prop} {w w' : World} {v : Value} {d : DS} (h : RefIs P w v d) (hs : w.heap.size ≤ w'.heap.size) (hb : ∀ b, P b → b < w.heap.size → w'.heap[b]? = w.heap[b]?) : RefIs P w' v d := by
  obtain ⟨l, X, e, h1, h2⟩ := h
  exact ⟨l, X, e, h1.same hs hb, h2⟩
theorem RefIs.below {P : Nat → Prop} {w w' : World} {v : Value} {d : DS} (h : RefIs P w v d) (hb : Below w.heap.size w w') : RefIs P w' v d := h.same hb.size fun b _ hl => hb.block b hl
theorem RefIs.mono {P Q : Nat → Prop} {w : World} {v : Value} {d : DS} (h : RefIs P w v d) (hPQ : ∀ b, b < w.heap.size → P b → Q b) : RefIs Q w v d := by
  obtain ⟨l, X, e, h1, h2⟩ := h
  exact ⟨l, X, e, h1.mono hPQ, h2⟩
/-- What a disk is sure to be. -/
structure DsOk (N : Nat) (d : DS) : Prop where
  sorted : d.secs.Pairwise Sec.before
  there : ∀ s ∈ d.secs, s.last ≠ none ∨ s.fresh ≠ []
  last64 : ∀ s ∈ d.secs, ∀ v, s.last = some v → v.length = 64
  fresh64 : ∀ s ∈ d.secs, ∀ v ∈ s.fresh, v.length = 64
  r1 : 0 ≤ d.room
  r2 : d.room ≤ 9223372036854775807
  s1 : 0 ≤ d.steps
  s2 : d.steps ≤ N
  len : d.secs.length ≤ N
  fits : (d.secs.length : Int) ≤ d.room
  fresh : ∀ s ∈ d.secs, s.fresh.length ≤ N
  a1 : -9223372036854775808 ≤ d.ahead
  a2 : d.ahead ≤ 9223372036854775807
  a3 : d.armed = true → 0 ≤ d.ahead
theorem DiskAt.ok {N : Nat} {w : World} {p : Nat} {d : DS} {fp : List Nat} (h : DiskAt N w p d fp) : DsOk N d := by
  obtain ⟨sh, h1, hh, hr, h4, h5, b1, b2, b3, b4, b5, b6, b7, b8, b9, b10⟩ := h
  refine ⟨hr.sorted, hr.there, fun s hs v hv => ?_, fun s hs v hv => ?_, b1, b2, b3, b4, b5, b6, b7, b8, b9, b10⟩
  · have hf := findS_self hr.sorted hs
    have hl := hr.last s.area s.n
    rw [hf, Option.bind_some, hv] at hl
    obtain ⟨x, hx, hy⟩ := Option.bind_eq_some_iff.1 hl
    exact (hh.hli _ (mem_keys_of_mget hx)).2.1 _ (mem_keys_of_mget hy)
  · have hf := findS_self hr.sorted hs
    have hl := hr.fresh s.area s.n
    rw [hf, Option.map_some, Option.getD_some, fget_eq] at hl
    cases hg : fsGet sh.F s.area s.n with
    | none => rw [hg] at hl; simp at hl; rw [hl] at hv; cases hv
    | some y =>
      rw [hg] at hl
      simp at hl
      obtain ⟨x, hx, hy⟩ := Option.bind_eq_some_iff.1 hg
      exact ((hh.hfi _ (mem_keys_of_mget hx)).2.1 _ (mem_keys_of_mget hy)).2.2.2.1 v (by rw [hl]; exact hv)
end Go.Proofs.Ytpmmpdkeahmdiaa

/- A disk of the reference as a result. -/
namespace Go.Proofs.Ytpmmpdkeahmdiaa
open Go.RowKit
set_option maxRecDepth 100000

theorem six_cells {w : World} {b : Nat} {v0 v1 v2 v3 v4 v5 : Value} {t : TypeId} (h : w.heap[b]? = some (.cells #[v0, v1, v2, v3, v4, v5] t (0, 0))) :
    w.cell? ⟨b, 0, none⟩ = some v0 ∧ w.cell? ⟨b, 1, none⟩ = some v1 ∧ w.cell? ⟨b, 2, none⟩ = some v2 ∧ w.cell? ⟨b, 3, none⟩ = some v3 ∧ w.cell? ⟨b, 4, none⟩ = some v4 ∧ w.cell? ⟨b, 5, none⟩ = some v5 ∧ (∀ o, w.frozen? ⟨b, o, none⟩ = false) := by
  refine ⟨?_, ?_, ?_, ?_, ?_, ?_, fun o => ?_⟩ <;> simp [World.cell?, World.frozen?, h]
theorem four_cells {w : World} {b : Nat} {v0 v1 v2 v3 : Value} {t : TypeId} (h : w.heap[b]? = some (.cells #[v0, v1, v2, v3] t (0, 0))) :
    w.cell? ⟨b, 0, none⟩ = some v0 ∧ w.cell? ⟨b, 1, none⟩ = some v1 ∧ w.cell? ⟨b, 2, none⟩ = some v2 ∧ w.cell? ⟨b, 3, none⟩ = some v3 ∧ (∀ o, w.frozen? ⟨b, o, none⟩ = false) := by
  refine ⟨?_, ?_, ?_, ?_, fun o => ?_⟩ <;> simp [World.cell?, World.frozen?, h]
theorem six_set {w : World} {b : Nat} {a0 a1 a2 a3 a4 a5 : Value} {t : TypeId} {f : Nat × Nat} (h : w.heap[b]? = some (.cells #[a0, a1, a2, a3, a4, a5] t f)) (v0 v1 v2 v3 v4 v5 : Value) :
    ((((((w.setCell ⟨b, 0, none⟩ v0).setCell ⟨b, 1, none⟩ v1).setCell ⟨b, 2, none⟩ v2).setCell ⟨b, 3, none⟩ v3).setCell ⟨b, 4, none⟩ v4).setCell ⟨b, 5, none⟩ v5).heap[b]? = some (.cells #[v0, v1, v2, v3, v4, v5] t f) := by
  rw [set_cell (set_cell (set_cell (set_cell (set_cell (set_cell h 0 v0) 1 v1) 2 v2) 3 v3) 4 v4) 5 v5]
  rfl
/-- Six stores into a block. -/
def six (w : World) (b : Nat) (v0 v1 v2 v3 v4 v5 : Value) : World := (((((w.setCell ⟨b, 0, none⟩ v0).setCell ⟨b, 1, none⟩ v1).setCell ⟨b, 2, none⟩ v2).setCell ⟨b, 3, none⟩ v3).setCell ⟨b, 4, none⟩ v4).setCell ⟨b, 5, none⟩ v5
theorem six_below {B : Nat} {a w : World} (h : Below B a w) {b : Nat} (hb : B ≤ b) (v0 v1 v2 v3 v4 v5 : Value) : Below B a (six w b v0 v1 v2 v3 v4 v5) :=
  (((((h.setCell (p := ⟨b, 0, none⟩) hb v0).setCell (p := ⟨b, 1, none⟩) hb v1).setCell (p := ⟨b, 2, none⟩) hb v2).setCell (p := ⟨b, 3, none⟩) hb v3).setCell (p := ⟨b, 4, none⟩) hb v4).setCell (p := ⟨b, 5, none⟩) hb v5
theorem six_far (w : World) (b k : Nat) (h : k ≠ b) (v0 v1 v2 v3 v4 v5 : Value) : (six w b v0 v1 v2 v3 v4 v5).heap[k]? = w.heap[k]? := by
  unfold six
  rw [Below.heap_setCell _ _ _ _ h, Below.heap_setCell _ _ _ _ h, Below.heap_setCell _ _ _ _ h, Below.heap_setCell _ _ _ _ h, Below.heap_setCell _ _ _ _ h, Below.heap_setCell _ _ _ _ h]
theorem ret_disk {fn : Func} {R : Ending → World → Prop} {a : Act} {w : World} {b t : Nat} {r : RD} {ad : Option Addr} {n c : Nat} (hf : fn.results = #[.cell t 27]) (ht : a.tmps[t]? = some (.pointer (some ⟨b, 0, none⟩)))
    (hb : w.heap[b]? = some (.cells #[.int .i64 r.room, .int .i64 r.steps, .int .i64 r.left, .bool r.armed, .bool r.dead, .slice ad n c] 27 (0, 0))) (hd : a.defers = []) (hR : R (.returned (rdV r (.slice ad n c))) w) : bodyPost Try.prog fn R .ret a w := by
  obtain ⟨c0, c1, c2, c3, c4, c5, cz⟩ := six_cells hb
  refine bodyPost_ret ?_ hd hR
  unfold rdV
  simp [results, hf, ht, go_sem, c0, c1, c2, c3, c4, c5]
  try rfl
theorem ret_disk2 {fn : Func} {R : Ending → World → Prop} {a : Act} {w : World} {b t u : Nat} {r : RD} {ad : Option Addr} {n c : Nat} {x : Value} (hf : fn.results = #[.cell t 27, .tmp u]) (ht : a.tmps[t]? = some (.pointer (some ⟨b, 0, none⟩))) (hu : a.tmps[u]? = some x)
    (hb : w.heap[b]? = some (.cells #[.int .i64 r.room, .int .i64 r.steps, .int .i64 r.left, .bool r.armed, .bool r.dead, .slice ad n c] 27 (0, 0))) (hd : a.defers = []) (hR : R (.returned (.tuple #[rdV r (.slice ad n c), x])) w) : bodyPost Try.prog fn R .ret a w := by
  obtain ⟨c0, c1, c2, c3, c4, c5, cz⟩ := six_cells hb
  refine bodyPost_ret ?_ hd hR
  unfold rdV
  simp [results, hf, ht, hu, go_sem, c0, c1, c2, c3, c4, c5]
  try rfl
end Go.Proofs.Ytpmmpdkeahmdiaa
