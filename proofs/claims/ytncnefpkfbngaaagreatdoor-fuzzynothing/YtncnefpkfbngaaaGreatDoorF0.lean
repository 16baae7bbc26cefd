/- Texts that were written apart, joined. -/
import Derived.Test.YtncnefpkfbngaaaGreatDoorWkMath
import Derived.Test.YtncnefpkfbngaaaGreatDoorE0
import Derived.Test.YtncnefpkfbngaaaGreatDoorRnd
import Derived.Test.YtncnefpkfbngaaaGreatDoorG0
import Derived.LoopIn
import Derived.TacticsInMore
import Derived.OwnWalkIn
/- What a search through a machine and an automaton finds: mathematics. -/
namespace Go.Proofs.YtncnefpkfbngaaaGreatDoor.Fz
open Go.Proofs.YtncnefpkfbngaaaGreatDoor.Nums Go.Proofs.YtncnefpkfbngaaaGreatDoor.Fm Go.Proofs.YtncnefpkfbngaaaGreatDoor Go.Proofs.YtncnefpkfbngaaaGreatDoor.Pk Go.Proofs.YtncnefpkfbngaaaGreatDoor.Ed Go.Proofs.YtncnefpkfbngaaaGreatDoor.Lv

/-- A match: its word, its weight, its distance. -/
abbrev Mt := ByteArray × Int × Int
def hit (xs : List Int) (d : Nat) (e : En) : Option Mt := if lv e.1 xs ≤ d then some (textS e.1, e.2, (lv e.1 xs : Int)) else none
def hits (xs : List Int) (d : Nat) (R : List En) : List Mt := R.filterMap (hit xs d)
theorem hits_append (xs : List Int) (d : Nat) (R S : List En) : hits xs d (R ++ S) = hits xs d R ++ hits xs d S := List.filterMap_append
theorem hits_len (xs : List Int) (d : Nat) (R : List En) : (hits xs d R).length ≤ R.length := List.length_filterMap_le _ _
theorem dead_dist {xs : List Int} {d : Nat} {t : List Int} (hn : xs.length ≤ 24) (h : aliveB xs.length d (rowL xs d t) = false) : d < lv t xs := by
 have h1 := (alive_not hn).1 h xs.length (Nat.le_refl _)
 rw [rowL_get d t hn (Nat.le_refl _), rowF, List.take_length] at h1
 omega
theorem dead_far {xs : List Int} {d : Nat} (hn : xs.length ≤ 24) : ∀ (r t : List Int), aliveB xs.length d (rowL xs d t) = false → d < lv (t ++ r) xs
 | [], t, h => by rw [List.append_nil]; exact dead_dist hn h
 | c :: r, t, h => by
  have h2 := (dead_step c hn h).1
  rw [step_row d t c hn] at h2
  have := dead_far hn r (t ++ [c]) h2
  rw [List.append_assoc] at this
  exact this
theorem hits_dead {xs : List Int} {d : Nat} (hn : xs.length ≤ 24) {t : List Int} (h : aliveB xs.length d (rowL xs d t) = false) (sum : Int) (R : List En) : hits xs d (ud t sum R) = [] := by
 unfold hits ud
 rw [List.filterMap_map]
 refine List.filterMap_eq_nil_iff.2 fun e _ => ?_
 simp only [Function.comp, hit]
 rw [if_neg (by have := dead_far hn e.1 t h; omega)]

/-- What is kept to be done: an arc behind a beginning. -/
structure It where
 to : Nat
 lab : Int
 out : Int
 head : List Int
 wt : Int
def itE (D : List (List En)) (i : It) : List En := ud (i.head ++ [i.lab]) (i.wt + i.out) (D[i.to]?.getD [])
def stE (D : List (List En)) (l : List It) : List En := l.reverse.flatMap (itE D)
def itOf (head : List Int) (wt : Int) (a : Arc) : It := ⟨a.to, a.label, a.out, head, wt⟩
def live (xs : List Int) (d : Nat) (head : List Int) (a : Arc) : Bool := aliveB xs.length d (rowL xs d (head ++ [a.label]))
def push (xs : List Int) (d : Nat) (head : List Int) (wt : Int) (l : List Arc) : List It := (l.reverse.filter (live xs d head)).map (itOf head wt)
theorem stE_snoc (D : List (List En)) (l : List It) (i : It) : stE D (l ++ [i]) = itE D i ++ stE D l := by
 unfold stE
 rw [List.reverse_append, List.flatMap_append]
 simp
theorem stE_append (D : List (List En)) (l m : List It) : stE D (l ++ m) = stE D m ++ stE D l := by
 unfold stE
 rw [List.reverse_append, List.flatMap_append]
theorem stE_push (D : List (List En)) (xs : List Int) (d : Nat) (head : List Int) (wt : Int) (l : List Arc) : stE D (push xs d head wt l) = (l.filter (live xs d head)).flatMap fun a => ud (head ++ [a.label]) (wt + a.out) (D[a.to]?.getD []) := by
 unfold stE push
 rw [← List.map_reverse, ← List.filter_reverse, List.reverse_reverse, List.flatMap_map]
 rfl
theorem live_hits {xs : List Int} {d : Nat} (hn : xs.length ≤ 24) (D : List (List En)) (head : List Int) (wt : Int) : ∀ l : List Arc, hits xs d ((l.filter (live xs d head)).flatMap fun a => ud (head ++ [a.label]) (wt + a.out) (D[a.to]?.getD [])) = hits xs d (udA D head wt l)
 | [] => rfl
 | a :: l => by
  have ih := live_hits (d := d) hn D head wt l
  have e : udA D head wt (a :: l) = ud (head ++ [a.label]) (wt + a.out) (D[a.to]?.getD []) ++ udA D head wt l := by simp [udA]
  rw [e, hits_append, ← ih]
  cases h : live xs d head a with
  | true => rw [List.filter_cons, if_pos h, List.flatMap_cons, hits_append]
  | false =>
   rw [List.filter_cons, if_neg (by rw [h]; simp), hits_dead hn h, List.nil_append]
theorem push_hits {xs : List Int} {d : Nat} (hn : xs.length ≤ 24) (D : List (List En)) (its : List It) (head : List Int) (wt : Int) (l : List Arc) : hits xs d (stE D (its ++ push xs d head wt l)) = hits xs d (udA D head wt l) ++ hits xs d (stE D its) := by
 rw [stE_append, hits_append, stE_push, live_hits hn]
theorem push_len (D : List (List En)) (xs : List Int) (d : Nat) (head : List Int) (wt : Int) : ∀ l : List Arc, (stE D (push xs d head wt l)).length ≤ (udA D head wt l).length
 | [] => by simp [push, stE]
 | a :: l => by
  have ih := push_len D xs d head wt l
  have e : udA D head wt (a :: l) = ud (head ++ [a.label]) (wt + a.out) (D[a.to]?.getD []) ++ udA D head wt l := by simp [udA]
  rw [stE_push] at ih ⊢
  rw [e, List.length_append]
  cases h : live xs d head a with
  | true => rw [List.filter_cons, if_pos h, List.flatMap_cons, List.length_append]; omega
  | false => rw [List.filter_cons, if_neg (by rw [h]; simp)]; omega
/-- How much is left. -/
def wgt (R : List En) : Nat := (R.map fun e => e.1.length + 1).sum
def itM (D : List (List En)) (i : It) : Nat := wgt (D[i.to]?.getD [])
def stM (D : List (List En)) (l : List It) : Nat := (l.map (itM D)).sum
theorem wgt_append (R S : List En) : wgt (R ++ S) = wgt R + wgt S := by simp [wgt]
theorem wgt_pre (c o : Int) : ∀ R : List En, wgt ((shift o R).map (pre c)) = wgt R + R.length
 | [] => rfl
 | e :: R => by
  have ih := wgt_pre c o R
  have e1 : (shift o (e :: R)).map (pre c) = pre c (e.1, e.2 + o) :: (shift o R).map (pre c) := rfl
  have e2 : ∀ (x : En) (L : List En), wgt (x :: L) = x.1.length + 1 + wgt L := fun x L => by simp [wgt]
  rw [e1, e2, e2, ih]
  simp only [pre, List.length_cons]
  omega
theorem wgt_flat (D : List (List En)) : ∀ l : List Arc, wgt (flat (outs D l)) = (l.map fun a => wgt (D[a.to]?.getD [])).sum + (l.map fun a => (D[a.to]?.getD []).length).sum
 | [] => rfl
 | a :: l => by
  have e : flat (outs D (a :: l)) = (shift a.out (D[a.to]?.getD [])).map (pre a.label) ++ flat (outs D l) := by simp [flat, outs]
  rw [e, wgt_append, wgt_pre, wgt_flat D l]
  simp only [List.map_cons, List.sum_cons]
  omega
theorem wgt_exp (D : List (List En)) (s : St) : wgt (exp D s) = (s.arcs.map fun a => wgt (D[a.to]?.getD [])).sum + (exp D s).length := by
 rw [exp_len, exp, wgt_append, wgt_flat]
 have : wgt (fins s) = if s.final then 1 else 0 := by unfold fins; cases s.final <;> rfl
 rw [this]
 omega
theorem stM_append (D : List (List En)) (l m : List It) : stM D (l ++ m) = stM D l + stM D m := by simp [stM]
theorem sum_filter_le (f : Arc → Nat) (p : Arc → Bool) : ∀ l : List Arc, ((l.filter p).map f).sum ≤ (l.map f).sum
 | [] => by simp
 | a :: l => by
  have := sum_filter_le f p l
  rw [List.filter_cons]
  split <;> simp only [List.map_cons, List.sum_cons] <;> omega
theorem push_meas {D : List (List En)} {b : List St} (hI : Fm.Inv D b) {i : Nat} {s : St} (hi : b[i]? = some s) (xs : List Int) (d : Nat) (head : List Int) (wt : Int) : stM D (push xs d head wt s.arcs) < wgt (D[i]?.getD []) := by
 obtain ⟨h1, _, _⟩ := hI.row i s hi
 have hne := (hI.lv (exp D s) (List.mem_of_getElem? h1)).1
 have hp := List.length_pos_iff.2 hne
 rw [h1, Option.getD_some, wgt_exp]
 have e : stM D (push xs d head wt s.arcs) = ((s.arcs.reverse.filter (live xs d head)).map fun a => wgt (D[a.to]?.getD [])).sum := by
  unfold stM push
  rw [List.map_map]
  rfl
 have h2 := sum_filter_le (fun a => wgt (D[a.to]?.getD [])) (live xs d head) s.arcs.reverse
 have h3 : (s.arcs.reverse.map fun a => wgt (D[a.to]?.getD [])).sum = (s.arcs.map fun a => wgt (D[a.to]?.getD [])).sum := by
  rw [List.map_reverse, List.sum_reverse]
 rw [h3] at h2
 rw [e]
 omega
/-- As many as there are words at least. -/
theorem stE_some {D : List (List En)} (hlv : ∀ R ∈ D, R ≠ []) : ∀ {l : List It}, (∀ i ∈ l, i.to < D.length) → l.length ≤ (stE D l).length
 | [], _ => by simp
 | i :: l, h => by
  have ih := stE_some hlv (l := l) fun j hj => h j (by simp [hj])
  have e : stE D (i :: l) = stE D l ++ itE D i := by simp [stE]
  have hi := h i (by simp)
  have : 1 ≤ (itE D i).length := by
   unfold itE
   rw [ud_len, List.getElem?_eq_getElem hi, Option.getD_some]
   exact List.length_pos_iff.2 (hlv _ (List.getElem_mem hi))
  rw [e, List.length_append, List.length_cons]
  omega
/-- One more rune behind a text. -/
theorem textS_snoc {t : List Int} {r : Int} (h1 : allR t = true) (h2 : allR [r] = true) : textS (t ++ [r]) = textS t ++ textS [r] := by
 have h3 : allR (t ++ [r]) = true := by
  unfold allR at h1 h2 ⊢
  rw [List.all_append, h1, h2]; rfl
 unfold textS
 rw [if_pos h1, if_pos h2, if_pos h3, List.flatMap_append]
 unfold strOfNums
 rw [List.map_append]
 apply ByteArray.ext
 simp
theorem textS_few (t : List Int) : (textS t).size ≤ 4 * t.length := by
 unfold textS
 split
 · have := flat_len t
   unfold strOfNums
   show ((t.flatMap wrI).map _).toArray.size ≤ _
   rw [List.size_toArray, List.length_map]
   exact this
 · exact Nat.zero_le _
theorem fmap_congr {α β : Type} {f g : α → Option β} : ∀ {l : List α}, (∀ x ∈ l, f x = g x) → l.filterMap f = l.filterMap g
 | [], _ => rfl
 | x :: l, h => by rw [List.filterMap_cons, List.filterMap_cons, h x (by simp), fmap_congr (l := l) fun y hy => h y (by simp [hy])]
/-- What is near of a list of pairs. -/
def nearOf (xs : List Int) (d : Nat) (l : List Pr) : List Mt := l.filterMap fun p => if lv (entOf p).1 xs ≤ d then some (p.1, p.2, (lv (entOf p).1 xs : Int)) else none
theorem hits_ents {l : List Pr} (h : Wd l) (xs : List Int) (d : Nat) : hits xs d (ents l) = nearOf xs d l := by
 unfold hits ents nearOf
 rw [List.filterMap_map]
 refine fmap_congr fun p hp => ?_
 obtain ⟨ys, hy, _⟩ := h p hp
 simp only [Function.comp, hit]
 rw [text_entW ⟨ys, hy⟩]
 rfl
end Go.Proofs.YtncnefpkfbngaaaGreatDoor.Fz

/- slices.Backward at arcs; behind. -/
namespace Go.Proofs.YtncnefpkfbngaaaGreatDoor
open Go.RowKit Nums Fm Pk Fz
set_option maxRecDepth 100000
attribute [local go_sem] Oper.semAt_some

def arcW (a : RArc) : Value := .agg #[.int .i32 a.label, .int .i64 a.out, .int .i64 a.to]
def zArc : RArc := ⟨0, 0, 0⟩
/-- What Backward's function looks at. -/
structure BkAt (bx : Nat) (ad : Option Addr) (cap : Nat) (l : List RArc) (W : World) : Prop where
 box : W.cell? ⟨bx, 0, none⟩ = some (.slice ad l.length cap)
 row : ∃ E, ArcsAt E W (.slice ad l.length cap) l
theorem Backward_any (ad : Option Addr) (n cap : Nat) (w : World) : Calls Tryz.prog 53 #[.slice ad n cap] w fun e w' => e = .returned (.func (.func 81) #[] #[.pointer (some ⟨w.heap.size, 0, none⟩)]) ∧ w' = w.alloc (.cells #[.slice ad n cap] 86) := by
 go_enter Tryz.func53, Tryz.ntmps53
 go_wp2
 go_ret
 exact ⟨rfl, rfl⟩
set_option maxHeartbeats 1000000 in
theorem back_seq (bx : Nat) (ad : Option Addr) (cap : Nat) (l : List RArc) (hl : l.length ≤ 9223372036854775807) :
 SeqB 81 #[.pointer (some ⟨bx, 0, none⟩)] (fun k => #[.int .i64 ((l.length - 1 - k : Nat) : Int), arcW (l.getD (l.length - 1 - k) zArc)]) l.length (BkAt bx ad cap l) := by
 intro yl J W hT hy h0
 have hb0 := (hT 0 W h0).box
 obtain ⟨n, hn⟩ : ∃ n, l.length = n := ⟨_, rfl⟩
 have HT : Hid (∀ k W, J k W → BkAt bx ad cap l W) := hT
 have HY : Hid (∀ k W, k < n → J k W → YieldAt Fence.wide 0 Tryz.prog yl #[.int .i64 ((n - 1 - k : Nat) : Int), arcW (l.getD (n - 1 - k) zArc)] W fun e W' => e = .returned (.bool true) ∧ J (k + 1) W') := by
  have := hy; rw [hn] at this; exact this
 have HN : Hid (l.length = n) := hn
 rw [hn] at hb0 hl ⊢
 clear hT hy hn
 have hdd : ∀ k : Nat, (Fence.wide.depth.isSome = true → 1 ≤ k) := fun k h => by simp [Fence.wide] at h
 refine (callsIn_wide (n := 1)).1 ?_
 refine callsIn_of_wp Tryz.func81 rfl trivial ?_ rfl
 simp only [Tryz.ntmps81, List.size_toArray, List.length_cons, List.length_nil, Nat.reduceAdd, Nat.reduceSub, Array.replicate_succ, Array.replicate_zero, List.push_toArray, List.append_toArray, List.nil_append, List.cons_append]
 have hw1 : IntKind.i64.wrap ((n : Int) - 1) = (n : Int) - 1 := by rw [IntKind.wrap_i64]; omega
 gi_wp2
 gi_loopw [3] (fun v wr => ∃ k : Nat, k ≤ n ∧ v = .int .i64 ((n : Int) - 1 - (k : Int)) ∧ J k wr) (fun v _ => (intOf v + 1).toNat)
 case atStart => exact ⟨0, Nat.zero_le _, by first | rfl | (congr 1; omega) | simp, h0⟩
 case round =>
  obtain ⟨k, hk, rfl, hJ⟩ := hrel
  by_cases hkn : k < n
  · obtain ⟨m, hm⟩ : ∃ m, m = n - 1 - k := ⟨_, rfl⟩
    have hmi : (n : Int) - 1 - (k : Int) = (m : Int) := by omega
    have hB := HT.out k wr hJ
    have hbx := hB.box
    obtain ⟨E, hrow⟩ := hB.row
    rw [HN.out] at hbx hrow
    obtain ⟨x, hx⟩ : ∃ x, l[m]? = some x := ⟨_, List.getElem?_eq_getElem (by have := HN.out; omega)⟩
    obtain ⟨g, off, rfl, _, c0, c1, c2⟩ := hrow.at hx
    obtain ⟨fn, tmps, assign, body, hyy, hRr⟩ := HY.out k wr hkn hJ
    rw [← hm, List.getD_eq_getElem?_getD, hx, Option.getD_some] at hyy
    simp only [arcW] at hyy
    rw [hmi]
    have hm0 : (m : Int) < (n : Int) := by omega
    have hw2 : IntKind.i64.wrap ((m : Int) - 1) = (m : Int) - 1 := by rw [IntKind.wrap_i64]; omega
    have HM : Hid (m + k + 1 = n) := by show m + k + 1 = n; omega
    clear hB hrow hmi hm hx
    gi_wp2
    refine hRr.mono ?_
    rintro e W3 ⟨rfl, hJ3⟩
    gi_wp2
    go_roundw
    case rel => exact ⟨k + 1, by omega, by have := HM.out; congr 1; omega, hJ3⟩
    case measure => first | (simp [intOf]; done) | (simp [intOf]; omega)
  · have hkn2 : k = n := by omega
    have hneg : (n : Int) - 1 - (k : Int) < 0 := by omega
    rw [hkn2] at hJ
    have hz : (n : Int) - 1 - (k : Int) = -1 := by omega
    rw [hz]
    clear hneg hz hkn hk
    gi_wp2
    go_end0
    exact ⟨⟨_, rfl⟩, hJ⟩
set_option maxHeartbeats 1000000 in
theorem fzBehind_any (t : List Int) (r : Int) (w : World) (hT : Tabs w) (h1 : allR t = true) (h2 : allR [r] = true) (ht : t.length ≤ 24) : Calls Tryz.prog 57 #[.string (textS t), .int .i32 r] w fun e w' => e = .returned (.string (textS (t ++ [r]))) ∧ Below w.heap.size w w' := by
 have HE : Hid (textS (t ++ [r]) = textS t ++ textS [r]) := textS_snoc h1 h2
 have hsz1 := textS_few t
 have hsz2 := textS_few [r]
 obtain ⟨tx, htx⟩ : ∃ tx, textS t = tx := ⟨_, rfl⟩
 rw [htx] at HE hsz1 ⊢
 have HC : Hid (∀ T, Calls Tryz.prog 82 #[.slice (some ⟨w.heap.size, 0, none⟩) 1 1] (w.alloc (.cells #[.int .i32 r] T)) fun e w' => e = .returned (.tuple #[.string (textS [r]), .bool (allR [r])]) ∧ Below (w.alloc (.cells #[.int .i32 r] T)).heap.size (w.alloc (.cells #[.int .i32 r] T)) w') := fun T => by
  have hb : Below w.heap.size w (w.alloc (.cells #[.int .i32 r] T)) := (Below.refl _ w).alloc (Nat.le_refl _) _
  refine Text_any _ [r] _ (hT.below hb) ⟨some ⟨w.heap.size, 0, none⟩, 1, rfl, fun _ => ⟨w.heap.size, 0, rfl, fun i hi => ?_⟩⟩ (by simp)
  have : i = 0 := by simp at hi; omega
  subst this
  simp
 obtain ⟨tr, htr⟩ : ∃ tr, textS [r] = tr := ⟨_, rfl⟩
 rw [htr] at HE HC hsz2
 have hsz : ¬ 9223372036854775807 < tx.size + tr.size := by simp at hsz2; omega
 clear htx htr h1 hsz1 hsz2 ht
 go_enter Tryz.func57, Tryz.ntmps57
 go_wp2_with (go_at_call 82; refine (HC.out _).mono ?_; rintro e w1 ⟨rfl, hb1⟩)
 go_ret
 exact ⟨by rw [HE.out]; rfl, ((Below.refl _ w).alloc (Nat.le_refl _) _).trans (hb1.mono (by simp))⟩
end Go.Proofs.YtncnefpkfbngaaaGreatDoor
