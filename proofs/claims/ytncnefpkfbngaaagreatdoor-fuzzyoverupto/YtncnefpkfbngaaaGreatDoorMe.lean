/- Texts that were written apart, joined. -/
import Derived.Test.YtncnefpkfbngaaaGreatDoorMb
import Derived.Test.YtncnefpkfbngaaaGreatDoorMa
import Derived.Test.YtncnefpkfbngaaaGreatDoorJ3
import Derived.Test.YtncnefpkfbngaaaGreatDoorF1
import Derived.Test.YtncnefpkfbngaaaGreatDoorE1
import Derived.Test.YtncnefpkfbngaaaGreatDoorJ1
import Derived.Handy
/- The stable sort of a row of matches that the call has made. -/
namespace Go.Proofs.YtncnefpkfbngaaaGreatDoor
open Go.RowKit Go.Shelf Go.Lib Go.Sort Pm
set_option maxRecDepth 100000
namespace Mg
abbrev M := Mq.Pr
/-- A row of matches that the call has made. -/
def MOwn (B : Nat) (w : World) (v : Value) (l : List M) : Prop := GOwn 44 3 B w v (l.map cellsM)
theorem sortWorldM_far {w : World} {blk off q : Nat} {d : Array M} {os : Array Obj} {k : Nat} (hk : k < w.heap.size) (hne : k ≠ blk) : (sortWorldK Mq.encP 3 w blk off q d os).heap[k]? = w.heap[k]? := by
 unfold sortWorldK grow putRowK putRow mapBlock
 simp only
 rw [Array.getElem?_append_left (by simpa [Sort.ahead] using hk), Array.getElem?_modify, if_neg (fun e => hne e.symm)]
 rfl
theorem sortWorldM_at {w : World} {blk off q : Nat} {d : Array M} {os : Array Obj} {cur : Array Value} {T : TypeId} (h : w.heap[blk]? = some (.cells cur T (0, 0))) : ∃ cur', cur'.size = cur.size ∧ (sortWorldK Mq.encP 3 w blk off q d os).heap[blk]? = some (.cells cur' T (0, 0)) := by
 have hk := (Array.getElem?_eq_some_iff.1 h).1
 unfold sortWorldK grow putRowK putRow mapBlock
 simp only
 rw [Array.getElem?_append_left (by simpa [Sort.ahead] using hk), Array.getElem?_modify, if_pos rfl]
 show ∃ cur', _ ∧ Option.map _ w.heap[blk]? = _
 rw [h]
 exact ⟨_, by simp [putCells], rfl⟩
theorem belowSW {w w' : World} {blk off : Nat} {d : Array M} {B : Nat} (h : SWK Mq.encP 3 w blk off d w') (hB : B ≤ blk) (hBw : B ≤ w.heap.size) : Below B w w' := by
 have hs := h.le
 obtain ⟨q, os, rfl⟩ := h
 exact ⟨rfl, rfl, rfl, hs, fun k hk => sortWorldM_far (by omega) (by omega)⟩
theorem cells3 (x : M) (j : Nat) (hj : j < 3) : ∃ u, (cellsM x)[j]? = some u ∧ (Mq.encP x)[j]? = some u := by
 rcases (by omega : j = 0 ∨ j = 1 ∨ j = 2) with rfl | rfl | rfl <;> exact ⟨_, rfl, rfl⟩
theorem rowM_of {B : Nat} {w : World} {g cap : Nat} {l : List M} (h : MOwn B w (.slice (some ⟨g, 0, none⟩) l.length cap) l) (hl : l.length < 1125899906842624) : Mq.RowP w g 0 l.length ∧ SWK Mq.encP 3 w g 0 l.toArray w ∧ B ≤ g := by
 have hcell := fun h0 => GOwn.cell h h0
 obtain ⟨_, _, ⟨e, _⟩ | ⟨g', cap', cur, e, h1, hh, h3, h4, h5, h6⟩⟩ := h
 · cases e
 · simp only [Value.slice.injEq, Option.some.injEq, Addr.mk.injEq] at e
   obtain ⟨⟨rfl, _⟩, _, rfl⟩ := e
   have hsz := (Array.getElem?_eq_some_iff.1 hh).1
   have fz : ∀ o, w.frozen? ⟨g, o, none⟩ = false := fun o => by simp [World.frozen?, hh]
   have H : HoldsK Mq.encP 3 w g 0 l.toArray := by
    intro t ht
    have ht2 : t < l.length * 3 := by simpa using ht
    obtain ⟨i, j, rfl, hj⟩ : ∃ i j, t = i * 3 + j ∧ j < 3 := ⟨t / 3, t % 3, by omega, by omega⟩
    have hi : i < l.length := by omega
    obtain ⟨g2, cap2, e2, _, _, _, hc⟩ := hcell (by rw [List.length_map]; omega)
    simp only [Value.slice.injEq, Option.some.injEq, Addr.mk.injEq] at e2
    obtain ⟨⟨rfl, _⟩, _, rfl⟩ := e2
    refine ⟨?_, fz _⟩
    rw [get_flatK _ _ _ _ (by simpa using ht2), show (i * 3 + j) / 3 = i by omega, show (i * 3 + j) % 3 = j by omega]
    have el : l.toArray[i]! = l[i] := by simp [hi]
    rw [el]
    obtain ⟨u, hu1, hu2⟩ := cells3 l[i] j hj
    rw [Nat.zero_add, hc i j (cellsM l[i]) u (by simp [hi]) hu1]
    have hd : (Mq.encP l[i])[j]! = u := by simp [hu2]
    rw [hd]
    rfl
   exact ⟨⟨⟨l.toArray, by simp, ⟨Mq.encP_k, Mq.encP_one, H, hsz⟩⟩, by omega⟩, SWK.start H, h1⟩
theorem map_flat_len (l : List M) : (l.map cellsM).flatten.length = l.length * 3 := by
 induction l with
 | nil => rfl
 | cons x r ih => rw [List.map_cons, List.flatten_cons, List.length_append, ih, List.length_cons]; show 3 + _ = _; omega
theorem sorted_own {B : Nat} {w w' : World} {g cap : Nat} {l l' : List M} (h : MOwn B w (.slice (some ⟨g, 0, none⟩) l.length cap) l) (hl : l.length < 1125899906842624) (hS : SWK Mq.encP 3 w g 0 l'.toArray w') (he : l'.length = l.length) : MOwn B w' (.slice (some ⟨g, 0, none⟩) l'.length cap) l' := by
 obtain ⟨R, _, hB⟩ := rowM_of h hl
 have H := R.holds hS (by simpa using he)
 obtain ⟨_, _, ⟨e, _⟩ | ⟨g', cap', cur, e, h1, hh, h3, h4, h5, h6⟩⟩ := h
 · cases e
 · simp only [Value.slice.injEq, Option.some.injEq, Addr.mk.injEq] at e
   obtain ⟨⟨rfl, _⟩, _, rfl⟩ := e
   obtain ⟨qq, os, rfl⟩ := hS
   obtain ⟨cur', k1, k2⟩ := sortWorldM_at (off := 0) (q := qq) (d := l'.toArray) (os := os) hh
   rw [List.length_map] at h3
   refine ⟨fun x hx => ?_, by rw [map_flat_len, List.length_map], .inr ⟨g, cap, cur', by rw [List.length_map], h1, k2, by rw [List.length_map]; omega, h4, by omega, ?_⟩⟩
   · obtain ⟨y, _, rfl⟩ := List.mem_map.1 hx
     exact cellsM_ok y
   · refine List.ext_getElem (by rw [List.length_take, map_flat_len, List.length_map]; simp; omega) fun t p q => ?_
     rw [map_flat_len] at q
     obtain ⟨i, j, rfl, hj⟩ : ∃ i j, t = i * 3 + j ∧ j < 3 := ⟨t / 3, t % 3, by omega, by omega⟩
     have hi : i < l'.length := by omega
     obtain ⟨u, hu1, hu2⟩ := cells3 l'[i] j hj
     have e1 := flat_get (l'.map cellsM) (k := 3) (fun x hx => by obtain ⟨y, _, rfl⟩ := List.mem_map.1 hx; rfl) i j (cellsM l'[i]) u (by simp [hi]) hu1
     have e2 : (sortWorldK Mq.encP 3 w g 0 qq l'.toArray os).cell? ⟨g, 0 + (i * 3 + j), none⟩ = some u := by
      have el : l'.toArray[i]! = l'[i] := by simp [hi]
      rcases (by omega : j = 0 ∨ j = 1 ∨ j = 2) with rfl | rfl | rfl
      · have := (Mq.cellP0 H (i := i) (by simpa using hi)).1
        rw [el] at this
        rw [← Option.some.inj (show some _ = some u from hu2)]
        exact this
      · have := (Mq.cellP1 H (i := i) (by simpa using hi)).1
        rw [el] at this
        rw [← Option.some.inj (show some _ = some u from hu2), ← Nat.add_assoc]
        exact this
      · have := (Mq.cellP2 H (i := i) (by simpa using hi)).1
        rw [el] at this
        rw [← Option.some.inj (show some _ = some u from hu2), ← Nat.add_assoc]
        exact this
     have e3 : (cur'.toList.take ((l'.map cellsM).length * 3))[i * 3 + j]? = some u := by
      rw [List.getElem?_take, if_pos (by rw [List.length_map]; omega)]
      simp only [World.cell?, k2, Nat.zero_add] at e2
      simpa using e2
     rw [← e1] at e3
     rw [List.getElem?_eq_getElem p, List.getElem?_eq_getElem (by rw [map_flat_len]; exact q)] at e3
     exact Option.some.inj e3
set_option maxHeartbeats 1000000 in
theorem insertionM_nil (w : World) : Calls Tryz.prog 69 #[.slice none 0 0, .int .i64 0, .int .i64 0, .func (.func 18) #[] #[]] w fun e w' => e = .returned (.tuple #[]) ∧ w' = w := by
 go_enter Tryz.func69, Tryz.ntmps69
 go_wp2
 refine wp_loop_rounds 1 ?_
 rw [rounds_succ]
 go_wp2
 go_end0
 exact ⟨rfl, rfl⟩
set_option maxHeartbeats 1000000 in
theorem stableM_nil (w : World) : Calls Tryz.prog 39 #[.slice none 0 0, .int .i64 0, .func (.func 18) #[] #[]] w fun e w' => e = .returned (.tuple #[]) ∧ w' = w := by
 go_enter Tryz.func39, Tryz.ntmps39
 go_wp2
 refine wp_loop_rounds 1 ?_
 rw [rounds_succ]
 go_wp2_with (go_at_call 69; refine (insertionM_nil _).mono ?_; rintro e w2 ⟨rfl, rfl⟩)
 refine wp_loop_rounds 1 ?_
 rw [rounds_succ]
 go_wp2
 go_end0
 exact ⟨rfl, rfl⟩
set_option maxHeartbeats 1000000 in
theorem sortStableM_nil (w : World) : Calls Tryz.prog 17 #[.slice none 0 0, .func (.func 18) #[] #[]] w fun e w' => e = .returned (.tuple #[]) ∧ w' = w := by
 go_enter Tryz.func17, Tryz.ntmps17
 go_wp2_with (go_at_call 39; refine (stableM_nil _).mono ?_; rintro e w2 ⟨rfl, rfl⟩)
 go_end0
 exact ⟨rfl, rfl⟩
/-- The sort of a row that the call has made. -/
theorem sortM_own {B : Nat} {w : World} {v : Value} {l : List M} (h : MOwn B w v l) (hl : l.length < 1125899906842624) (hB : B ≤ w.heap.size) :
 Calls Tryz.prog 17 #[v, .func (.func 18) #[] #[]] w fun e w' => e = .returned (.tuple #[]) ∧ MOwn B w' v (insAll lessB l) ∧ Below B w w' := by
 have h' := h
 obtain ⟨_, _, ⟨e, h0⟩ | ⟨g, cap, cur, rfl, h1, hh, h3, h4, h5, h6⟩⟩ := h
 · have hl0 : l = [] := by simpa using h0
   subst hl0
   subst e
   refine (sortStableM_nil w).mono ?_
   rintro e w' ⟨rfl, rfl⟩
   exact ⟨rfl, h', Below.refl _ _⟩
 · rw [List.length_map] at h'
   obtain ⟨R, S, hBg⟩ := rowM_of h' hl
   rw [List.length_map]
   refine (Mq.sortStable_any g 0 l.length cap w w R hl l S rfl).mono ?_
   rintro e w' ⟨rfl, l', hs, hS⟩
   have hlen := hs.len
   have ho := sorted_own h' hl hS hlen
   rw [hlen] at ho
   rw [stably_one lessB_sto (insAll_ok lessB_sto l) hs]
   exact ⟨rfl, ho, belowSW hS hBg hB⟩
end Mg
end Go.Proofs.YtncnefpkfbngaaaGreatDoor

/- fuzzy.changed: a word is looked for in changes that rise. -/
namespace Go.Proofs.YtncnefpkfbngaaaGreatDoor
open Go.RowKit Go.Shelf Go.Lib Go.Sort Pm
set_option maxRecDepth 100000
namespace Mg
def cfW (a b : ByteArray) : Int := if lessB a b then -1 else if lessB b a then 1 else 0
theorem cfW_lt {a b : ByteArray} (h : lessB a b = true) : cfW a b = -1 := by unfold cfW; rw [if_pos h]
theorem cfW_ge {a b : ByteArray} (h : lessB a b = false) : ¬ cfW a b < 0 := by unfold cfW; rw [h]; cases lessB b a <;> decide
theorem cfW_eq (a b : ByteArray) : cfW a b = 0 ↔ a = b := by
 unfold cfW
 constructor
 · intro h
   cases e1 : lessB a b
   · cases e2 : lessB b a
     · exact lessB_sto.tot _ _ e1 e2
     · rw [e1, e2] at h; simp at h
   · rw [e1] at h; simp at h
 · rintro rfl
   rw [lessB_sto.irr]; rfl
theorem below_alloc (w : World) (o : Obj) : Below w.heap.size w (w.alloc o) := (Below.refl _ w).alloc (Nat.le_refl _) _
theorem chg1_any (x : Pr) (s : ByteArray) (W : World) : Calls Tryz.prog 37 #[.agg #[.string x.1, .int .i64 x.2], .string s] W fun e w' => e = .returned (.int .i64 (cfW x.1 s)) ∧ Below W.heap.size W w' := by
 have h1 : ∀ W', Calls Tryz.prog 19 #[.string x.1, .string s] W' fun e w' => e = .returned (.int .i64 (cfW x.1 s)) ∧ w' = W' := fun W' => Mq.inOrder_any x.1 s W'
 generalize cfW x.1 s = c at h1 ⊢
 go_enter Tryz.func37, Tryz.ntmps37
 go_wp2_with (go_at_call 19; refine (h1 _).mono ?_; rintro e w' ⟨rfl, rfl⟩)
 go_ret
 exact ⟨rfl, below_alloc _ _⟩
/-- Does one of the pairs have the word? -/
def hasW (C : List Pr) (s : ByteArray) : Bool := decide (∃ p ∈ C, p.1 = s)
theorem has_at {C : List Pr} {s : ByteArray} (hC : SUp lessB C) (i : Nat) (x : Pr) (hx : C[i]? = some x) (h1 : ∀ k y, k < i → C[k]? = some y → lessB y.1 s = true) (h2 : lessB x.1 s = false) : hasW C s = (cfW x.1 s == 0) := by
 unfold hasW
 rw [Bool.eq_iff_iff, decide_eq_true_iff, beq_iff_eq, cfW_eq]
 constructor
 · rintro ⟨p, hp, rfl⟩
   obtain ⟨k, hk⟩ := List.getElem?_of_mem hp
   rcases Nat.lt_trichotomy k i with h | h | h
   · have := h1 k p h hk
     rw [lessB_sto.irr] at this; cases this
   · subst h; rw [hk] at hx; exact (congrArg Prod.fst (Option.some.inj hx)).symm
   · obtain ⟨hil, hie⟩ := List.getElem?_eq_some_iff.1 hx
     obtain ⟨hkl, hke⟩ := List.getElem?_eq_some_iff.1 hk
     have := List.pairwise_iff_getElem.1 hC i k hil hkl h
     rw [hie, hke, h2] at this
     cases this
 · intro e
   exact ⟨x, List.mem_of_getElem? hx, e⟩
theorem has_none {C : List Pr} {s : ByteArray} (i : Nat) (hi : C.length ≤ i) (h1 : ∀ k y, k < i → C[k]? = some y → lessB y.1 s = true) : hasW C s = false := by
 unfold hasW
 rw [decide_eq_false_iff_not]
 rintro ⟨p, hp, rfl⟩
 obtain ⟨k, hk⟩ := List.getElem?_of_mem hp
 have := h1 k p (by have := (List.getElem?_eq_some_iff.1 hk).1; omega) hk
 rw [lessB_sto.irr] at this; cases this
theorem low_next {C : List Pr} {s : ByteArray} (hC : SUp lessB C) {h : Nat} {y : Pr} (hy : C[h]? = some y) (hv : lessB y.1 s = true) : ∀ k z, k < h + 1 → C[k]? = some z → lessB z.1 s = true := fun k z hk hz => by
 by_cases e : k = h
 · subst e; rw [hz] at hy; rw [Option.some.inj hy]; exact hv
 · obtain ⟨h1, e1⟩ := List.getElem?_eq_some_iff.1 hy
   obtain ⟨h2, e2⟩ := List.getElem?_eq_some_iff.1 hz
   have := List.pairwise_iff_getElem.1 hC k h h2 h1 (by omega)
   rw [e1, e2] at this
   exact lessB_sto.tr _ _ _ this hv
attribute [local go_sem ↓] exec_load_P exec_store_P
set_option maxHeartbeats 2000000 in
theorem search_any (w : World) (v : Value) (C : List Pr) (s : ByteArray) (hr : PRow w v C) (hC : SUp lessB C) (hl : C.length < 549755813888) :
 Calls Tryz.prog 36 #[v, .string s, .func (.func 37) #[] #[]] w fun e w' => ∃ i, e = .returned (.tuple #[.int .i64 i, .bool (hasW C s)]) ∧ Below w.heap.size w w' := by
 obtain ⟨ad, cap, rfl, _⟩ := id hr
 obtain ⟨n, hn⟩ : ∃ n, C.length = n := ⟨_, rfl⟩
 have HN : Hid (C.length = n) := hn
 rw [hn] at hr hl ⊢
 have HROW : Hid (PRow w (.slice ad n cap) C) := hr
 have HC : Hid (SUp lessB C) := hC
 clear hr hC hn
 go_enter Tryz.func36, Tryz.ntmps36
 go_wp2
 go_loopg [9, 10] n (fun g s9 s10 wr => ∃ (i j : Nat), s9 = .int .i64 i ∧ s10 = .int .i64 j ∧ i ≤ j ∧ j ≤ n ∧ j - i ≤ g ∧ Hid (Below w.heap.size w wr) ∧ Hid ((∀ k y, k < i → C[k]? = some y → lessB y.1 s = true) ∧ (∀ y, C[j]? = some y → lessB y.1 s = false)))
 case atStart => exact ⟨0, n, rfl, rfl, Nat.zero_le _, Nat.le_refl _, by omega, Below.refl _ _, fun k y hk => by omega, fun y hy => by have := (List.getElem?_eq_some_iff.1 hy).1; have := HN.out; omega⟩
 case round =>
  obtain ⟨i, j, rfl, rfl, hij, hjn, hg, HB, H⟩ := hrel
  by_cases hlt : i < j
  · have hltz : (i : Int) < (j : Int) := by omega
    obtain ⟨h, hh⟩ : ∃ h, h = (i + j) / 2 := ⟨_, rfl⟩
    have ehz : ((i : Int) + (j : Int)) / 2 = (h : Int) := by omega
    have hih : i ≤ h := by omega
    have hhj : h < j := by omega
    clear hh
    have rh : IntKind.i64.wrap (h : Int) = (h : Int) := by rw [IntKind.wrap_i64]; omega
    have ph : (0 : Int) ≤ (h : Int) := by omega
    have bh : (h : Int) < (n : Int) := by omega
    have eh : (h : Int).toNat = h := by omega
    obtain ⟨y, hy⟩ : ∃ y, C[h]? = some y := ⟨C[h]'(by have := HN.out; omega), List.getElem?_eq_getElem _⟩
    have HY : Hid (C[h]? = some y) := hy
    obtain ⟨g0, off, hgo, hg0, hc⟩ := (HROW.out.below HB.out).at (by omega)
    subst hgo
    have hld := (hc h y hy).load
    have HCM : Hid (Calls Tryz.prog 37 #[valP y, .string s] wr fun e w' => e = .returned (.int .i64 (cfW y.1 s)) ∧ Below wr.heap.size wr w') := chg1_any y s wr
    clear hc hg0 hy
    cases hv : lessB y.1 s
    · have hv1 : ¬ cfW y.1 s < 0 := cfW_ge hv
      have HV : Hid (lessB y.1 s = false) := hv
      clear hv
      go_wp2_with (first | (go_at_fn 37; refine HCM.out.mono ?_; rintro e w2 ⟨rfl, hb2⟩; have HB2 : Hid (Below w.heap.size w w2) := HB.out.trans (hb2.mono HB.out.size); clear hb2) | (go_at_call 37; refine HCM.out.mono ?_; rintro e w2 ⟨rfl, hb2⟩; have HB2 : Hid (Below w.heap.size w w2) := HB.out.trans (hb2.mono HB.out.size); clear hb2))
      go_roundg (h - i)
      case measure => omega
      case rel => exact ⟨i, h, rfl, by first | rfl | go_num, hih, by omega, Nat.le_refl _, HB2, H.out.1, fun z hz => by have e := HY.out; rw [hz] at e; rw [Option.some.inj e]; exact HV.out⟩
    · have hv1 : cfW y.1 s = -1 := cfW_lt hv
      have HV : Hid (lessB y.1 s = true) := hv
      rw [hv1] at HCM
      clear hv hv1
      go_wp2_with (first | (go_at_fn 37; refine HCM.out.mono ?_; rintro e w2 ⟨rfl, hb2⟩; have HB2 : Hid (Below w.heap.size w w2) := HB.out.trans (hb2.mono HB.out.size); clear hb2) | (go_at_call 37; refine HCM.out.mono ?_; rintro e w2 ⟨rfl, hb2⟩; have HB2 : Hid (Below w.heap.size w w2) := HB.out.trans (hb2.mono HB.out.size); clear hb2))
      go_roundg (j - (h + 1))
      case measure => omega
      case rel => exact ⟨h + 1, j, by go_num, rfl, by omega, hjn, Nat.le_refl _, HB2, low_next HC.out HY.out HV.out, H.out.2⟩
  · have hltz : ¬ (i : Int) < (j : Int) := by omega
    obtain rfl : i = j := by omega
    by_cases hin : i < n
    · have hinz : (i : Int) < (n : Int) := by omega
      obtain ⟨y, hy⟩ : ∃ y, C[i]? = some y := ⟨C[i]'(by have := HN.out; omega), List.getElem?_eq_getElem _⟩
      obtain ⟨g0, off, hgo, hg0, hc⟩ := (HROW.out.below HB.out).at (by omega)
      subst hgo
      have HHA : Hid (hasW C s = (cfW y.1 s == 0)) := has_at HC.out i y hy H.out.1 (H.out.2 y hy)
      have hld := (hc i y hy).load
      have HCM : Hid (Calls Tryz.prog 37 #[valP y, .string s] wr fun e w' => e = .returned (.int .i64 (cfW y.1 s)) ∧ Below wr.heap.size wr w') := chg1_any y s wr
      clear hc hg0 hy
      generalize cfW y.1 s = c at HCM HHA
      go_wp2_with (first | (go_at_fn 37; refine HCM.out.mono ?_; rintro e w2 ⟨rfl, hb2⟩; have HB2 : Hid (Below w.heap.size w w2) := HB.out.trans (hb2.mono HB.out.size); clear hb2) | (go_at_call 37; refine HCM.out.mono ?_; rintro e w2 ⟨rfl, hb2⟩; have HB2 : Hid (Below w.heap.size w w2) := HB.out.trans (hb2.mono HB.out.size); clear hb2))
      go_ret2
      exact ⟨_, by rw [HHA.out]; rfl, HB2.out⟩
    · have hinz : ¬ (i : Int) < (n : Int) := by omega
      have HHA : Hid (hasW C s = false) := has_none i (by have := HN.out; omega) H.out.1
      go_wp2
      go_ret2
      first | exact ⟨_, by rw [HHA.out]; rfl, HB.out⟩ | exact ⟨⟨_, by rw [HHA.out]; rfl⟩, HB.out⟩
theorem changed_any (w : World) (v : Value) (C : List Pr) (s : ByteArray) (hr : PRow w v C) (hC : SUp lessB C) (hl : C.length < 549755813888) :
 Calls Tryz.prog 15 #[v, .string s] w fun e w' => e = .returned (.bool (hasW C s)) ∧ Below w.heap.size w w' := by
 have h1 := search_any w v C s hr hC hl
 clear hr hC hl
 generalize hasW C s = b at h1 ⊢
 go_enter Tryz.func15, Tryz.ntmps15
 go_wp2_with (go_at_call 36; refine h1.mono ?_; rintro e w2 ⟨i, rfl, hb2⟩)
 go_ret
 exact ⟨rfl, hb2⟩
end Mg
end Go.Proofs.YtncnefpkfbngaaaGreatDoor

/- fuzzy.match: what a change puts in. -/
namespace Go.Proofs.YtncnefpkfbngaaaGreatDoor
open Go.RowKit Go.Shelf Go.Lib Go.Sort Pm Nums Ed
set_option maxRecDepth 100000
namespace Mg
/-- What a change puts in, if it does. -/
def mtch (word : List UInt8) (edits : Int) (p : Pr) : Option Mq.Pr :=
 if p.2 ≤ 0 ∨ wordB p.1.data.toList = false then none
 else match dsE p.1.data.toList word with
  | some d => if (d : Int) ≤ edits then some (p.1, p.2, (d : Int)) else none
  | none => none
theorem ma_results {tmps : Array Value} {w : World} {rb : Nat} {a b c : Value} (h2 : tmps.getD 6 undef = .pointer (some ⟨rb, 0, none⟩)) (c0 : w.cell? ⟨rb, 0, none⟩ = some a) (c1 : w.cell? ⟨rb, 1, none⟩ = some b) (c2 : w.cell? ⟨rb, 2, none⟩ = some c) : (results Tryz.f16 tmps).run Tryz.prog w = .ok (.tuple #[.agg #[a, b, c], tmps.getD 7 undef]) w := by
 have h2' : tmps[6]?.getD undef = .pointer (some ⟨rb, 0, none⟩) := by simpa using h2
 simp [results, Tryz.results16, go_sem, h2', c0, c1, c2]
theorem allocN (w : World) (o : Obj) : (w.alloc o).heap[w.heap.size]? = some o := by show (w.heap.push o)[w.heap.size]? = _; simp
/-- A match is stored in a block of its own. -/
theorem own_storeM (w1 : World) (mb : Nat) (a b c : Value) (hb : w1.heap[mb]? = some (.cells #[a, b, c] 44)) (x : Mq.Pr) (B : Nat) (hB : B ≤ mb) :
 ∃ W, Mq.storeP Tryz.prog (.pointer (some ⟨mb, 0, none⟩)) (Mq.valP x) w1 = .ok () W ∧ Below B w1 W ∧ W.heap[mb]? = some (.cells (Mq.encP x).toArray 44) := by
 refine ⟨w1.setCells mb 0 (Mq.encP x), Mq.storeP_at (u := a) (v := b) (z := c) (by simp [World.cell?, hb]) (by simp [World.cell?, hb]) (by simp [World.cell?, hb]) (by simp [World.frozen?, hb]) (by simp [World.frozen?, hb]) (by simp [World.frozen?, hb]), ?_, ?_⟩
 · show Below B w1 (((w1.setCell ⟨mb, 0, none⟩ _).setCell ⟨mb, 1, none⟩ _).setCell ⟨mb, 2, none⟩ _)
   exact (((Below.refl B w1).setCell (p := ⟨mb, 0, none⟩) hB _).setCell (p := ⟨mb, 1, none⟩) hB _).setCell (p := ⟨mb, 2, none⟩) hB _
 · simp [Mq.encP, World.setCells, World.setCell, Array.getElem?_modify, hb]
theorem cellsMq {W : World} {mb : Nat} {x : Mq.Pr} (h : W.heap[mb]? = some (.cells (Mq.encP x).toArray 44)) : W.cell? ⟨mb, 0, none⟩ = some (.string x.1) ∧ W.cell? ⟨mb, 1, none⟩ = some (.int .i64 x.2.1) ∧ W.cell? ⟨mb, 2, none⟩ = some (.int .i64 x.2.2) := by
 refine ⟨by simp [World.cell?, h, Mq.encP], by simp [World.cell?, h, Mq.encP], by simp [World.cell?, h, Mq.encP]⟩
/-- What match tells. -/
def MaSays (w w' : World) (o : Option Mq.Pr) (e : Ending) : Prop := Below w.heap.size w w' ∧ ((o = none ∧ ∃ m, e = .returned (.tuple #[Mq.valP m, .bool false])) ∨ ∃ m, o = some m ∧ e = .returned (.tuple #[Mq.valP m, .bool true]))
theorem no_facts {w Wz : World} {rb : Nat} {o : Option Mq.Pr} (hz : Wz.heap[rb]? = some (.cells #[.string ⟨#[]⟩, .int .i64 0, .int .i64 0] 44)) (hb : Below w.heap.size w Wz) (hr : w.heap.size ≤ rb) (ho : o = none) :
 ∃ W3, Mq.storeP Tryz.prog (.pointer (some ⟨rb, 0, none⟩)) (.agg #[.string ⟨#[]⟩, .int .i64 0, .int .i64 0]) Wz = .ok () W3 ∧ W3.cell? ⟨rb, 0, none⟩ = some (.string ⟨#[]⟩) ∧ W3.cell? ⟨rb, 1, none⟩ = some (.int .i64 0) ∧ W3.cell? ⟨rb, 2, none⟩ = some (.int .i64 0) ∧ Hid (MaSays w W3 o (.returned (.tuple #[Mq.valP (⟨#[]⟩, 0, 0), .bool false]))) := by
 obtain ⟨W3, hst, hb3, hc3⟩ := own_storeM Wz rb _ _ _ hz (⟨#[]⟩, 0, 0) w.heap.size hr
 obtain ⟨k0, k1, k2⟩ := cellsMq hc3
 exact ⟨W3, hst, k0, k1, k2, hb.trans hb3, .inl ⟨ho, _, rfl⟩⟩
theorem yes_facts {w Wz : World} {rb : Nat} {o : Option Mq.Pr} (x : Mq.Pr) (hz : Wz.heap[rb]? = some (.cells #[.string ⟨#[]⟩, .int .i64 0, .int .i64 0] 44)) (hb : Below w.heap.size w Wz) (hr : w.heap.size ≤ rb) (ho : o = some x) :
 ∃ W3, Mq.storeP Tryz.prog (.pointer (some ⟨rb, 0, none⟩)) (.agg #[.string x.1, .int .i64 x.2.1, .int .i64 x.2.2]) Wz = .ok () W3 ∧ W3.cell? ⟨rb, 0, none⟩ = some (.string x.1) ∧ W3.cell? ⟨rb, 1, none⟩ = some (.int .i64 x.2.1) ∧ W3.cell? ⟨rb, 2, none⟩ = some (.int .i64 x.2.2) ∧ Hid (MaSays w W3 o (.returned (.tuple #[Mq.valP x, .bool true]))) := by
 obtain ⟨W3, hst, hb3, hc3⟩ := own_storeM Wz rb _ _ _ hz x w.heap.size hr
 obtain ⟨k0, k1, k2⟩ := cellsMq hc3
 exact ⟨W3, hst, k0, k1, k2, hb.trans hb3, .inr ⟨x, ho, rfl⟩⟩
attribute [local go_sem ↓] Mq.exec_store_P
set_option maxHeartbeats 1000000 in
theorem match_any (p : Pr) (ws : ByteArray) (word : List UInt8) (hw : ws.data.toList = word) (edits : Int) (w : World) (ht : Tabs w) (hp : p.1.size ≤ 9223372036854775807) (hs : ws.size ≤ 9223372036854775807) :
 Calls Tryz.prog 16 #[.agg #[.string p.1, .int .i64 p.2], .string ws, .int .i64 edits] w fun e w' => MaSays w w' (mtch word edits p) e := by
 obtain ⟨V2, hV2⟩ : ∃ V2, (w.alloc (.cells #[.string p.1, .int .i64 p.2] 47)).alloc (.cells #[.string ⟨#[]⟩, .int .i64 0, .int .i64 0] 44) = V2 := ⟨_, rfl⟩
 obtain ⟨pb, hpb⟩ : ∃ pb, w.heap.size = pb := ⟨_, rfl⟩
 obtain ⟨rb, hrb⟩ : ∃ rb, pb + 1 = rb := ⟨_, rfl⟩
 have HB2 : Hid (Below w.heap.size w V2) := by show Below _ _ _; rw [← hV2]; exact ((Below.refl _ w).alloc (Nat.le_refl _) _).alloc (by simp) _
 have HR2 : Hid (V2.heap[rb]? = some (.cells #[.string ⟨#[]⟩, .int .i64 0, .int .i64 0] 44)) := by
  have := allocN (w.alloc (.cells #[.string p.1, .int .i64 p.2] 47)) (.cells #[.string ⟨#[]⟩, .int .i64 0, .int .i64 0] 44)
  rw [hV2] at this
  show V2.heap[rb]? = _
  rw [← hrb, ← hpb]
  simpa using this
 have hP2 : V2.heap[pb]? = some (.cells #[.string p.1, .int .i64 p.2] 47) := by
  rw [← hV2, ← hpb]
  show ((w.heap.push _).push _)[w.heap.size]? = _
  simp only [Array.getElem?_push, Array.size_push]
  rw [if_neg (by omega), if_pos trivial]
 have HRB : Hid (w.heap.size ≤ rb) := by show w.heap.size ≤ rb; omega
 have p0 : V2.cell? ⟨pb, 0, none⟩ = some (.string p.1) := by simp [World.cell?, hP2]
 have p1 : V2.cell? ⟨pb, 1, none⟩ = some (.int .i64 p.2) := by simp [World.cell?, hP2]
 have HP2 : Hid (V2.heap[pb]? = some (.cells #[.string p.1, .int .i64 p.2] 47)) := hP2
 have HT2 : Hid (Tabs V2) := ht.below HB2.out
 clear hP2
 by_cases h0 : p.2 ≤ 0
 · have HNO : Hid (mtch word edits p = none) := by show mtch word edits p = none; unfold mtch; rw [if_pos (.inl h0)]
   obtain ⟨W3, hst2, k0, k1, k2, HFIN⟩ := no_facts HR2.out HB2.out HRB.out HNO.out
   go_enter Tryz.func16, Tryz.ntmps16
   go_wp2
   refine bodyPost_ret (ma_results rfl k0 k1 k2) rfl ?_
   exact HFIN.out
 · have HWD : Hid (Calls Tryz.prog 33 #[.string p.1] V2 fun e w' => e = .returned (.bool (wordB p.1.data.toList)) ∧ ∃ n, w' = V2.drewN n) := Word_any p.1 V2 HT2.out hp
   have HDR : Hid (∀ q, (V2.drewN q).heap[rb]? = some (.cells #[.string ⟨#[]⟩, .int .i64 0, .int .i64 0] 44) ∧ Below w.heap.size w (V2.drewN q)) := fun q => ⟨HR2.out, belowN HB2.out q⟩
   cases hwb : wordB p.1.data.toList
   · rw [hwb] at HWD
     have HNO : Hid (mtch word edits p = none) := by show mtch word edits p = none; unfold mtch; rw [if_pos (.inr hwb)]
     clear hwb
     go_enter Tryz.func16, Tryz.ntmps16
     go_wp2_with (go_at_call 33; refine HWD.out.mono ?_; rintro e w3 ⟨rfl, q, hq⟩; subst hq; obtain ⟨W3, hst2, k0, k1, k2, HFIN⟩ := no_facts (HDR.out q).1 (HDR.out q).2 HRB.out HNO.out)
     refine bodyPost_ret (ma_results rfl k0 k1 k2) rfl ?_
     exact HFIN.out
   · rw [hwb] at HWD
     have HMT : Hid (mtch word edits p = match dsE p.1.data.toList word with | some d => if (d : Int) ≤ edits then some (p.1, p.2, (d : Int)) else none | none => none) := by
      show mtch word edits p = _
      unfold mtch
      rw [if_neg (by rintro (h | h); exact h0 h; rw [hwb] at h; cases h)]
     have HDI : Hid (∀ q, Calls Tryz.prog 38 #[.string p.1, .string ws] (V2.drewN q) fun e w' => e = .returned (dsV (dsE p.1.data.toList word)) ∧ Below (V2.drewN q).heap.size (V2.drewN q) w') := fun q => by
      have := Distance_any p.1 ws (V2.drewN q) (ht.below ((HDR.out q).2)) hp hs
      rw [hw] at this
      exact this
     have HAF : Hid (∀ q w4, Below (V2.drewN q).heap.size (V2.drewN q) w4 → w4.heap[rb]? = some (.cells #[.string ⟨#[]⟩, .int .i64 0, .int .i64 0] 44) ∧ Below w.heap.size w w4 ∧ w4.cell? ⟨pb, 0, none⟩ = some (.string p.1) ∧ w4.cell? ⟨pb, 1, none⟩ = some (.int .i64 p.2)) := fun q w4 hb4 => by
      have h1 := (hb4.block rb (Array.getElem?_eq_some_iff.1 (HDR.out q).1).1).trans (HDR.out q).1
      have h2 := hb4.block pb (Array.getElem?_eq_some_iff.1 HP2.out).1
      have h3 : w4.heap[pb]? = some (.cells #[.string p.1, .int .i64 p.2] 47) := h2.trans HP2.out
      exact ⟨h1, (HDR.out q).2.trans (hb4.mono (HDR.out q).2.size), by simp [World.cell?, h3], by simp [World.cell?, h3]⟩
     clear hwb
     cases hds : dsE p.1.data.toList word with
     | none =>
      rw [hds] at HDI HMT
      clear hds
      go_enter Tryz.func16, Tryz.ntmps16
      go_wp2_with (first
       | (go_at_call 33; refine HWD.out.mono ?_; rintro e w3 ⟨rfl, q, hq⟩; subst hq)
       | (go_at_call 38; refine (HDI.out q).mono ?_; rintro e w4 ⟨rfl, hb4⟩; obtain ⟨hz4, hbw4, _⟩ := HAF.out q w4 hb4; obtain ⟨W3, hst2, k0, k1, k2, HFIN⟩ := no_facts hz4 hbw4 HRB.out HMT.out; clear hz4 hbw4 hb4; unfold dsV))
      refine bodyPost_ret (ma_results rfl k0 k1 k2) rfl ?_
      exact HFIN.out
     | some d =>
      rw [hds] at HDI HMT
      clear hds
      by_cases hde : (d : Int) ≤ edits
      · have HMS : Hid (mtch word edits p = some (p.1, p.2, (d : Int))) := by have := HMT.out; simp only [hde, if_true] at this; exact this
        have hde2 : ¬ (d : Int) > edits := by omega
        go_enter Tryz.func16, Tryz.ntmps16
        go_wp2_with (first
         | (go_at_call 33; refine HWD.out.mono ?_; rintro e w3 ⟨rfl, q, hq⟩; subst hq)
         | (go_at_call 38; refine (HDI.out q).mono ?_; rintro e w4 ⟨rfl, hb4⟩; obtain ⟨hz4, hbw4, q0, q1⟩ := HAF.out q w4 hb4; obtain ⟨W3, hst2, k0, k1, k2, HFIN⟩ := yes_facts _ hz4 hbw4 HRB.out HMS.out; clear hz4 hbw4 hb4; unfold dsV))
        refine bodyPost_ret (ma_results rfl k0 k1 k2) rfl ?_
        exact HFIN.out
      · have HMS : Hid (mtch word edits p = none) := by have := HMT.out; simp only [hde, if_false] at this; exact this
        have hde2 : edits < (d : Int) := by omega
        go_enter Tryz.func16, Tryz.ntmps16
        go_wp2_with (first
         | (go_at_call 33; refine HWD.out.mono ?_; rintro e w3 ⟨rfl, q, hq⟩; subst hq)
         | (go_at_call 38; refine (HDI.out q).mono ?_; rintro e w4 ⟨rfl, hb4⟩; obtain ⟨hz4, hbw4, _⟩ := HAF.out q w4 hb4; obtain ⟨W3, hst2, k0, k1, k2, HFIN⟩ := no_facts hz4 hbw4 HRB.out HMS.out; clear hz4 hbw4 hb4; unfold dsV))
        refine bodyPost_ret (ma_results rfl k0 k1 k2) rfl ?_
        exact HFIN.out
end Mg
end Go.Proofs.YtncnefpkfbngaaaGreatDoor
