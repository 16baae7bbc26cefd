/- Maps gone through inside a fence: the laws of MapAt, in the fenced walk's words. -/
import Derived.Test.YtpmmpdkeahmdiaaDisk
import Derived.RangeFuncNested
import Derived.RangeFuncBound
import Derived.RangeFuncCalls
import Derived.RangeFuncLeaves
import Derived.RangeFuncFrom
import Derived.RangeFuncBox
import Derived.Shelf.Abstract
import Derived.Shelf.RegionOpen
import Derived.WalkKit
import Derived.OwnWalkIn
import Derived.TacticsInMore
import Derived.RegionIn
import Derived.LoopNIn
import Derived.LoopIn
import Derived.Sort.MapsRangeIn
import Derived.Maps.AppendAt
namespace Go.Proofs.Ytpmmpdkeahmdiaa
open Go.RowKit Go.Shelf
set_option maxRecDepth 100000

section
variable {F : Fence} {n : Nat} {P : Program} {ops : Array Oper} {rest : List Oper} {o : Oper} {a : Act} {w : World} {Q : Exit → Act → World → Prop} {α : Type} {q : IntKind} {f : α → Value} {m : List (Int × α)} {t : TypeId}
theorem wpListIn_range_at {mv : Value} {bo : Option Nat} (h : ∃ ob, (Instr.range t mv).run P w = .ok (.pointer (some ⟨w.heap.size, 0, none⟩)) (w.alloc ob) ∧ Ranges q f (w.alloc ob) bo w.heap.size m []) (hg : o.guard = none) (x : Operand) (hop : o.op = Op.range t x) (hm : a.eval x = mv)
    (hK : ∀ ob, Ranges q f (w.alloc ob) bo w.heap.size m [] → wpListIn F n P ops Q rest (a.put o.dst (.pointer (some ⟨w.heap.size, 0, none⟩))) (w.alloc ob)) : wpListIn F n P ops Q (o :: rest) a w := by
  refine wpListIn_plain hg fun K' hK' => ?_
  obtain ⟨ob, hrun, hr⟩ := h
  unfold Oper.wpIn
  refine ⟨by simp [Oper.about, hop], ?_⟩
  rw [Oper.semAt_plain F _ _ (by rw [hop]; intro c hc'; cases hc')]
  simp [execOp, hop, hm, hrun, Result.andThen]
  exact hK' _ _ (hK ob hr)
theorem wpListIn_next_at {bo : Option Nat} {r : Nat} {done : List (Int × α)} (h : Ranges q f w bo r m done) (hg : o.guard = none) (it : Operand) (hop : o.op = Op.next it false) (hit : a.eval it = .pointer (some ⟨r, 0, none⟩))
    (hDone : AllIn m done → wpListIn F n P ops Q rest (a.put o.dst (.tuple #[.bool false])) w)
    (hMore : ∀ k v w', (k, v) ∈ m → k ∉ keys done → Ranges q f w' bo r m (done ++ [(k, v)]) → OneD r w w' → (Instr.entry (.pointer (some ⟨r, 0, none⟩))).run P w' = .ok (.tuple #[.int q k, f v]) w' → wpListIn F n P ops Q rest (a.put o.dst (.tuple #[.bool true, .int q k, f v])) w') : wpListIn F n P ops Q (o :: rest) a w := by
  refine wpListIn_plain hg fun K' hK' => ?_
  unfold Oper.wpIn
  refine ⟨by simp [Oper.about, hop], ?_⟩
  rw [Oper.semAt_plain F _ _ (by rw [hop]; intro c hc'; cases hc')]
  rcases h.next (P := P) o.type with ⟨hd, hrun⟩ | ⟨p, w', hp, hk, hrun, hr, h1, h2, h3, h4, h5, hen⟩
  · simp [execOp, hop, hit, hrun, Result.andThen]
    exact hK' _ _ (hDone hd)
  · simp [execOp, hop, hit, hrun, Result.andThen]
    exact hK' _ _ (hMore p.1 p.2 w' hp hk hr ⟨h1, h2, h3, h4, h5⟩ hen)
end
theorem OneD.grown {b : Nat} {w w' : World} (h : OneD b w w') : w.grownBy w' (some b) := ⟨h.os, h.tape, h.output, by rw [h.size]; exact Nat.le_refl _, fun k _ hk => h.block k (fun e => hk (by rw [e]))⟩
section
variable {α : Type} {q : IntKind} {f : α → Value} {m : List (Int × α)} {w w' : World} {bo : Option Nat} {r : Nat} {done : List (Int × α)}
theorem Ranges.iter_walk (h : Ranges q f w bo r m done) : ∃ o : Obj, w.heap[r]? = some o ∧ o.isWalk = true := by
  rcases h with ⟨_, _, _, s, c, h⟩ | ⟨_, _, _, _, _, _, _, _, _, _, _, _, h, _⟩ <;> exact ⟨_, h, rfl⟩
theorem Ranges.map_walk (h : Ranges q f w bo r m done) {b : Nat} (hb : bo = some b) : ∃ o : Obj, w.heap[b]? = some o ∧ o.isWalk = true := by
  subst hb
  rcases h with ⟨hn, _⟩ | ⟨_, _, _, _, _, _, hb, h, _⟩
  · cases hn
  · cases hb; exact ⟨_, h, rfl⟩
theorem Ranges.walks (h : Ranges q f w bo r m done) (hk : KeepsWalks w w') : Ranges q f w' bo r m done := by
  refine h.same ?_ (fun b hb => ?_)
  · obtain ⟨o, ho, hw⟩ := h.iter_walk
    rw [ho]; exact hk.same r o ho hw
  · obtain ⟨o, ho, hw⟩ := h.map_walk hb
    rw [ho]; exact hk.same b o ho hw
/-- All have come, each once: the keys. -/
theorem Ranges.perm (h : Ranges q f w bo r m done) (ha : AllIn m done) (hm : (keys m).Nodup) : (keys done).Perm (keys m) := by
  have hs := h.seen
  refine (List.perm_ext_iff_of_nodup hs.2.2.1 hm).2 fun k => ?_
  constructor
  · intro hk
    obtain ⟨p, hp, rfl⟩ := List.mem_map.1 hk
    exact List.mem_map.2 ⟨p, hs.2.2.2 p hp, rfl⟩
  · intro hk
    obtain ⟨p, hp, rfl⟩ := List.mem_map.1 hk
    exact List.mem_map.2 ⟨p, ha p hp, rfl⟩
end
end Go.Proofs.Ytpmmpdkeahmdiaa
