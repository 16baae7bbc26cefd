/- slices.SortStableFunc at pairs, by pairs.byWord. -/
import Derived.Test.YtjanhebckonbaaaDoorSym3
import Derived.Shelf.Lay
import Derived.Ground.SlsfProg
namespace Go.Proofs.YtjanhebckonbaaaDoor
open Go.RowKit Go.Shelf Go.Lib Go.Sort Pm
set_option maxRecDepth 1000000
shelf_lay_g SlLaysF0.n20 Slsf 20 at Tryd 48 as insP

theorem insertion_any (blk off n cap : Nat) (w0 w : World) (R : RowP w0 blk off n) (A X B : List Pr) (S : SWK encP 2 w0 blk off (A ++ (X ++ B)).toArray w) (hn : (A ++ (X ++ B)).length = n) (a b : Nat) (ha : a = A.length) (hb : b = A.length + X.length) :
    Calls Tryd.prog 48 #[.slice (some ⟨blk, off, none⟩) n cap, .int .i64 a, .int .i64 b, .func (.func 31) #[] #[]] w fun e w' => e = .returned (.tuple #[]) ∧ ∃ X', Stably lessB X X' ∧ SWK encP 2 w0 blk off (A ++ (X' ++ B)).toArray w' := by
  have eg : ∀ args w, (callFunc 31 args).run Tryd.prog w = .ok (.enter 31 args) w := enters_of Tryd.func31 (by kernel_rfl) rfl
  have hs : (A ++ (X ++ B)).toArray.size = n := by simpa using hn
  obtain ⟨⟨d0, e0, K⟩, hbig⟩ := R
  have H := (⟨⟨d0, e0, K⟩, hbig⟩ : RowP w0 blk off n).holds S hs
  have hc := AnyQ.insertionSortCmpFunc insP 2 Tryd.isAgg32 Tryd.sizeOf32 encP encP_k encP_one cfP 31 #[] blk off cap a b (A ++ (X ++ B)).toArray w eg (byWord_lays blk off _ w) H (S.lt K.hblk) (by omega) (by simp; omega) (by rw [hs]; exact hbig)
  rw [hs] at hc
  refine hc.mono ?_
  rintro e w' ⟨rfl, q, os, rfl⟩
  refine ⟨rfl, ?_⟩
  obtain ⟨X', e1, e2⟩ := ins_list lessB_sto A X B
  rw [cfP_ltf, ha, hb, e1]
  refine ⟨X', e2, S.on K.hblk q _ os ?_⟩
  have := e2.len
  simp
  omega

/-- Blocks of s pairs, each in order, and a shorter one behind them. -/
structure Blk (s : Nat) (C : List (List Pr)) (Z : List Pr) : Prop where
  all : ∀ c ∈ C, c.length = s ∧ Up lessB c
  up : Up lessB Z
  lt : Z.length < s
theorem flat_len6 {s : Nat} : ∀ {C : List (List Pr)}, (∀ c ∈ C, c.length = s ∧ Up lessB c) → C.flatten.length = s * C.length
  | [], _ => by simp
  | c :: C, h => by
    have h1 := (h c (List.mem_cons_self ..)).1
    have h2 := flat_len6 (C := C) fun x hx => h x (List.mem_cons_of_mem _ hx)
    rw [List.flatten_cons, List.length_append, h1, h2, List.length_cons, Nat.mul_add]
    omega
theorem blk_done {s n : Nat} {C : List (List Pr)} {Z : List Pr} (h : Blk s C Z) (hs : 0 < s) (hn : (C.flatten ++ Z).length = n) (hns : n ≤ s) : Up lessB (C.flatten ++ Z) := by
  have h1 := flat_len6 h.all
  rw [List.length_append, h1] at hn
  match C, h, hn with
  | [], h, _ => simpa using h.up
  | [c], h, hn =>
    have : Z = [] := List.eq_nil_of_length_eq_zero (by simp at hn; omega)
    subst this
    simpa using (h.all c (List.mem_cons_self ..)).2
  | c :: d :: C, h, hn =>
    exfalso
    rw [List.length_cons, List.length_cons] at hn
    have : s * (C.length + 1 + 1) = s * C.length + s + s := by rw [Nat.mul_add, Nat.mul_add]; omega
    omega
theorem of_same_mid {A X X' B : List Pr} (h : Stably lessB X X') (k : ByteArray) : Pm.of k (A ++ (X' ++ B)) = Pm.of k (A ++ (X ++ B)) := by
  rw [of_append, of_append, of_append, of_append, h.2]
end Go.Proofs.YtjanhebckonbaaaDoor
