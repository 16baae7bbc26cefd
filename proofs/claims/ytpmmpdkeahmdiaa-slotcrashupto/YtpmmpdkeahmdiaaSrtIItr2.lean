/- slices.Sorted at int. -/
import Derived.Test.YtpmmpdkeahmdiaaSrtIAll
import Derived.Test.YtpmmpdkeahmdiaaSrtIItr1
namespace Go.Proofs.Ytpmmpdkeahmdiaa
open Go.RowKit Go.Sort Go.Shelf
set_option maxRecDepth 100000
namespace SrtI

theorem row_at {w : World} {g : Nat} {e : TypeId} {cur : Array Value} {xs : List Int} (hb : w.heap[g]? = some (.cells cur e (0, 0))) (ht : cur.toList.take xs.length = xs.map (Value.int .i64)) : At g 0 w w xs.length xs.toArray := by
  refine ⟨fun j hj => ?_, by simp, RStep.refl _ _ _ _⟩
  have hj' : j < xs.length := by simpa using hj
  have h1 : cur[j]? = some (.int .i64 xs[j]) := by
    have : (cur.toList.take xs.length)[j]? = (xs.map (Value.int .i64))[j]? := by rw [ht]
    rw [List.getElem?_take, if_pos hj', List.getElem?_map, List.getElem?_eq_getElem hj'] at this
    simpa using this
  constructor
  · simp [World.cell?, hb, h1, hj']
  · simp [World.frozen?, hb]
theorem at_row {w0 w : World} {base g cap : Nat} {e : TypeId} {cur : Array Value} {xs : List Int} {n : Nat} (hb : w0.heap[g]? = some (.cells cur e (0, 0))) (hA : At g 0 w0 w n xs.toArray) (hbase : base ≤ g) (h1 : n ≤ cap) (h2 : cap ≤ maxLen) (h3 : cur.size = cap * 1) :
    w.ownsRow base e 1 (.slice (some ⟨g, 0, none⟩) n cap) n (xs.map (Value.int .i64)) := by
  obtain ⟨c', k1, k2, k3⟩ := hA.step.own cur e (0, 0) hb
  have hn : xs.length = n := by simpa using hA.size
  refine ⟨by simp [hn], .inr ⟨g, cap, c', rfl, hbase, k1, h1, h2, by rw [k2]; exact h3, ?_⟩⟩
  apply List.ext_getElem?
  intro j
  rw [List.getElem?_take, Nat.mul_one, List.getElem?_map]
  by_cases hj : j < n
  · rw [if_pos hj, List.getElem?_eq_getElem (by omega : j < xs.length)]
    have := (hA.holds j (by simpa [hn] using hj)).1
    simp [World.cell?, k1, show j < xs.length by omega] at this
    simpa using this
  · rw [if_neg hj, List.getElem?_eq_none (by omega)]
    rfl
theorem sorted_length (xs : List Int) : (sorted xs).length = xs.length := List.length_mergeSort _
set_option maxHeartbeats 4000000 in
theorem Sorted_any (g : Nat) (lb : Array Value) (eg : ∀ args w, (callFunc g args).run Try.prog w = .ok (.enter g args) w) {S Sp : List Int → Prop} {N : Nat} (w : World)
    (hseq : SeqStopsK Fence.wide 2 Try.prog g lb (fun x : Int => #[.int .i64 x]) KeepsWalks S Sp N w) (hN : N < 1099511627776) (hS : ∀ xs, S xs → xs.length ≤ N) :
    Calls Try.prog 67 #[.func (.func g) #[] lb] w fun e w' => ∃ v xs, e = .returned v ∧ S xs ∧ w'.ownsRow w.heap.size 3 1 v xs.length ((sorted xs).map (Value.int .i64)) ∧ (v = .slice none 0 0 ↔ xs = []) ∧ Below w.heap.size w w' := by
  have HC : Hid (Calls Try.prog 84 #[.func (.func g) #[] lb] w fun e w' => ∃ v xs, e = .returned v ∧ S xs ∧ w'.ownsRow w.heap.size 3 1 v xs.length (xs.map (Value.int .i64)) ∧ (v = .slice none 0 0 ↔ xs = []) ∧ Below w.heap.size w w') := Collect_any g lb eg w hseq hN
  have HS : Hid (∀ xs, S xs → xs.length ≤ N) := hS
  clear hseq hS
  go_enter Try.func67, Try.ntmps67
  go_wp2_with (go_at_call 84; refine HC.out.mono ?_; rintro e w1 ⟨v, xs, rfl, h1, h2, h3, h4⟩)
  have hl : xs.length ≤ N := HS.out xs h1
  obtain ⟨hr1, hr2⟩ := h2
  rcases hr2 with ⟨rfl, hn0⟩ | ⟨b, cap, cur, rfl, hb1, hb2, hb3, hb4, hb5, hb6⟩
  · have hx : xs = [] := h3.1 rfl
    subst hx
    go_wp2_with (go_at_call 85; refine (Sort_nil _).mono ?_; rintro e w2 ⟨rfl, rfl⟩)
    go_ret
    exact ⟨_, [], rfl, h1, ⟨by simp [sorted], .inl ⟨rfl, rfl⟩⟩, by simp, h4⟩
  · have hA := row_at hb2 (by simpa using hb6)
    have HA : Hid (Calls Try.prog 85 #[.slice (some ⟨b, 0, none⟩) xs.length cap] w1 fun e w' => e = .returned (.tuple #[]) ∧ At b 0 w1 w' xs.length (sorted xs).toArray) := by
      have := Sort_any b 0 cap xs.length xs.toArray w1 w1 hA (Array.getElem?_eq_some_iff.1 hb2).1 (by omega)
      show Calls _ _ _ _ _
      simpa using this
    clear hA
    have HR : Hid (Below w.heap.size w w1 ∧ w1.heap[b]? = some (.cells cur 3 (0, 0)) ∧ w.heap.size ≤ b ∧ xs.length ≤ cap ∧ cap ≤ maxLen ∧ cur.size = cap * 1) := ⟨h4, hb2, hb1, hb3, hb4, hb5⟩
    clear h4 hb2 hb3 hb4 hb5 hb6 hr1
    go_wp2_with (go_at_call 85; refine HA.out.mono ?_; rintro e w2 ⟨rfl, hA2⟩)
    go_ret
    obtain ⟨r1, r2, r3, r4, r5, r6⟩ := HR.out
    refine ⟨_, xs, rfl, h1, at_row r2 hA2 r3 r4 r5 r6, h3, ?_⟩
    exact ⟨hA2.step.os.trans r1.os, hA2.step.tape.trans r1.tape, hA2.step.output.trans r1.output, Nat.le_trans r1.size hA2.step.size, fun k hk => (hA2.step.block k (Nat.lt_of_lt_of_le hk r1.size) (by omega)).trans (r1.block k hk)⟩
end SrtI
end Go.Proofs.Ytpmmpdkeahmdiaa
