/- maps.Keys at map[uint64]map[int]disk.version: the function that it hands back gives the keys, each once. -/
import Derived.Test.YtpmmpdkeahmdiaaIter
import Derived.Handy
namespace Go.Proofs.Ytpmmpdkeahmdiaa
open Go.RowKit Go.Shelf
set_option maxRecDepth 100000
attribute [local go_sem] Oper.semAt_some
namespace IterL

set_option maxHeartbeats 4000000 in
theorem keys1_stops {α : Type} {f : α → Value} {m : List (Int × α)} {bo : Option Nat} (F : Fence) (n : Nat) (hf : F.fn 94) (hro : F.round = none) (hn : 1 ≤ n) (Bm : Nat) (w : World) (hBm : Bm < w.heap.size)
    (hc : w.cell? ⟨Bm, 0, none⟩ = some (.map bo)) (hm : (keys m).Nodup)
    (hr : ∀ W, Below w.heap.size w W → ∃ ob, (Instr.range 75 (.map bo)).run Try.prog W = .ok (.pointer (some ⟨W.heap.size, 0, none⟩)) (W.alloc ob) ∧ Ranges .u64 f (W.alloc ob) bo W.heap.size m []) :
    SeqStopsK F n Try.prog 94 #[.pointer (some ⟨Bm, 0, none⟩)] (fun x : Int => #[.int .u64 x]) KeepsWalks (fun xs => xs.Perm (keys m)) (fun _ => True) m.length w := by
  intro l J Jx W hW hJ hJx hY h0
  have hcW : W.cell? ⟨Bm, 0, none⟩ = some (.map bo) := (World.cell?_of_block (a := ⟨Bm, 0, none⟩) (hW.block Bm hBm)).trans hc
  have hrW := hr W hW
  have HY : Hid (∀ pre x W1, J pre W1 → pre.length < m.length → YieldAt F (n - 1) Try.prog l #[.int .u64 x] W1 fun e W' => (e = .returned (.bool true) ∧ J (pre ++ [x]) W' ∧ KeepsWalks W1 W') ∨ (e = .returned (.bool false) ∧ Jx (pre ++ [x]) W')) := hY
  clear hY hr hc
  refine callsIn_of_wp Try.func94 rfl hf ?_ hro
  simp only [Try.ntmps94, List.size_toArray, List.length_cons, List.length_nil, Nat.reduceAdd, Nat.reduceSub, Array.replicate_succ, Array.replicate_zero, List.push_toArray, List.append_toArray, List.nil_append, List.cons_append]
  gi_wp2_with (first
    | (gi_at_range; refine wpListIn_range_at hrW rfl _ rfl rfl ?_; intro ob hR0)
    | gi_in)
  go_frame
  gi_loopw [3] (fun _ wr => ∃ done : List (Int × α), Ranges .u64 f wr bo W.heap.size m done ∧ J (keys done) wr) (fun _ wr => m.length - seenAt wr W.heap.size)
  case atStart => exact ⟨[], hR0, hJ [] W _ none h0 (World.grownBy_alloc W ob none) (fun r e => by cases e)⟩
  case round =>
    obtain ⟨done, hR, hJs⟩ := hrel
    gi_wp2_with (first
      | (gi_at_next; refine wpListIn_next_at hR rfl _ rfl rfl ?_ ?_)
      | gi_in)
    · intro hall
      gi_wp2
      go_end0
      exact ⟨⟨_, rfl⟩, .inl ⟨keys done, hR.perm hall hm, hJs⟩⟩
    · intro k v w2 hmem hnk hR2 hone hen
      have hJ2 : J (keys done) w2 := hJ (keys done) wr w2 (some W.heap.size) hJs hone.grown (fun r e => by cases e; exact ⟨Nat.le_refl _, hR.iter_walk⟩)
      have hs1 := hR.seen
      have hs2 := hR2.seen
      have hlen : (keys done).length < m.length := by have := hs2.2.1; simp [keys] at this ⊢; omega
      obtain ⟨fn, tmps, assign, body, hy, hRr⟩ := HY.out (keys done) k w2 hJ2 hlen
      have HS1 : Hid (seenAt wr W.heap.size = done.length ∧ done.length < m.length) := ⟨hs1.1, by simpa [keys] using hlen⟩
      clear hs1 hs2 hlen
      gi_wp2
      refine hRr.mono ?_
      rintro e W3 (⟨rfl, hJ3, hk3⟩ | ⟨rfl, hJ3⟩)
      · gi_wp2
        have hR3 := hR2.walks hk3
        go_roundw
        case rel => exact ⟨done ++ [(k, v)], hR3, by simpa [keys] using hJ3⟩
        case measure =>
          have := hR3.seen.1
          have h1 := HS1.out
          rw [this, h1.1]
          simp
          omega
      · gi_wp2
        go_returns
        exact ⟨⟨_, rfl⟩, .inr ⟨_, trivial, hJ3⟩⟩
set_option maxHeartbeats 1000000 in
theorem Keys_any (bo : Option Nat) (w : World) : Calls Try.prog 88 #[.map bo] w fun e w' => e = .returned (.func (.func 94) #[] #[.pointer (some ⟨w.heap.size, 0, none⟩)]) ∧ w' = w.alloc (.cells #[.map bo] 75) := by
  go_enter Try.func88, Try.ntmps88
  go_wp2
  go_ret
  exact ⟨rfl, rfl⟩
end IterL
end Go.Proofs.Ytpmmpdkeahmdiaa
