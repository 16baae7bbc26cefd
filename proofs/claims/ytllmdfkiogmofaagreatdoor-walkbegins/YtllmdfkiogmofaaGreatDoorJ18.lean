/- Texts that were written apart, joined. -/
import Derived.Test.YtllmdfkiogmofaaGreatDoorJ17
import Derived.Test.YtllmdfkiogmofaaGreatDoorFRises2
import Derived.Test.YtllmdfkiogmofaaGreatDoorJ7
/- The reference's Make, over its state. -/
namespace Go.Proofs.YtllmdfkiogmofaaGreatDoor
open Go.RowKit Nums Fm Pm
set_option maxRecDepth 100000

/-- What state must say of the whole. -/
def StateTop (v : Value) (l : List Pr) (w : World) : Prop :=
  Calls Tryz.prog 55 #[.agg #[.slice none 0 0, .slice none 0 0], v] w fun e w' => ∃ ra rn rc sd nb sc n, e = .returned (.tuple #[.agg #[.slice ra rn rc, .slice sd nb sc], n]) ∧ Below w.heap.size w w' ∧ StRow w.heap.size w' (.slice sd nb sc) (stF 25 [] (ents l)).1
theorem make_results {tmps : Array Value} {w : World} {rb : Nat} {a b : Value} (h2 : tmps.getD 2 undef = .pointer (some ⟨rb, 0, none⟩)) (c0 : w.cell? ⟨rb, 0, none⟩ = some a) (c1 : w.cell? ⟨rb, 1, none⟩ = some b) : (results Tryz.f27 tmps).run Tryz.prog w = .ok (.agg #[a, b]) w := by
  have h2' : tmps[2]?.getD undef = .pointer (some ⟨rb, 0, none⟩) := by simpa using h2
  simp [results, Tryz.results27, go_sem, h2', c0, c1]
set_option maxHeartbeats 4000000 in
theorem refMake_any (w : World) (v : Value) (l : List Pr) (h : PRow w v l) (hC : buildE l = 0) (hst : l ≠ [] → ∀ w1 v1, Below w.heap.size w w1 → RR w1.heap.size w1 v1 (ents l) → StateTop v1 l w1) : MakeSays v l w := by
  unfold MakeSays
  obtain ⟨ad, cap, rfl⟩ := h.form
  have HR : Hid (PRow w (.slice ad l.length cap) l) := h
  obtain ⟨n, hn⟩ : ∃ n, l.length = n := ⟨_, rfl⟩
  have HN : Hid (l.length = n) := hn
  have HC : Hid (buildE l = 0) := hC
  have HST : Hid (l ≠ [] → ∀ w1 v1, Below w.heap.size w w1 → RR w1.heap.size w1 v1 (ents l) → StateTop v1 l w1) := hst
  have HA : Hid (∀ o, Below w.heap.size w (w.alloc o)) := fun o => (Below.refl _ w).alloc (Nat.le_refl _) o
  rw [hn] at HR ⊢
  clear h hst hC hn
  by_cases hn0 : n = 0
  · have HM : Hid (machOf l = (0, [])) := by show _ = _; rw [machOf, if_neg (fun e => e.2 (List.eq_nil_of_length_eq_zero (HN.out.trans hn0)))]
    subst hn0
    go_enter Tryz.func27, Tryz.ntmps27
    go_wp2
    go_returns
    exact ⟨_, _, _, rfl, HA.out _, StRow.nil _ _, HM.out⟩
  have hn0b : ((n : Int) == 0) = false := beq_eq_false_iff_ne.2 (by omega)
  have HLE : Hid (l ≠ []) := fun e => hn0 (by rw [← HN.out, e]; rfl)
  have HD : Hid (DictOk l) := dict_ok HC.out
  have HM : Hid (machOf l = (least (ents l), (stF 25 [] (ents l)).1)) := by show _ = _; rw [machOf, if_pos ⟨HC.out, fun e => by have := HN.out; rw [e] at this; simp at this; omega⟩]
  obtain ⟨rb, hrb⟩ : ∃ rb, rb = w.heap.size := ⟨_, rfl⟩
  obtain ⟨w0, hw0⟩ : ∃ w0, w0 = w.alloc (.cells #[.int .i64 0, .slice none 0 0] 26) := ⟨_, rfl⟩
  have HB0 : Hid (Below w.heap.size w w0) := by show Below _ _ _; rw [hw0]; exact HA.out _
  have HR0 : Hid (RBlk rb w0) := ⟨by rw [hw0, hrb]; exact alloc_newP _ _⟩
  have HRB : Hid (w.heap.size ≤ rb) := by show _ ≤ _; rw [hrb]; exact Nat.le_refl _
  have hRS : Hid (Calls Tryz.prog 54 #[.slice ad n cap] w0 fun e w' => ∃ v', e = .returned v' ∧ RR w'.heap.size w' v' (ents l) ∧ Below w0.heap.size w0 w') := by
    have := refRests_any w0 _ l (HR.out.below HB0.out) HD.out.len HD.out.wd
    exact this
  have hne := HD.out.len
  rw [HN.out] at hne
  have HE0 : Hid (0 < (ents l).length ∧ (ents l).length ≤ 1048576) := by have := ents_len l; rw [HN.out] at this; exact ⟨by omega, by omega⟩
  clear hn0
  go_enter Tryz.func27, Tryz.ntmps27
  go_upto_region 1 with fail
  rw [← hw0, ← hrb]
  clear hw0 hrb
  go_upto_region 5 with (go_at_call 54; refine hRS.out.mono ?_; rintro e w1 ⟨va, rfl, hra, hb1⟩; obtain ⟨da, ca, hva⟩ := hra.form; obtain ⟨ne, hne2⟩ : ∃ ne, (ents l).length = ne := ⟨_, rfl⟩; rw [hne2] at hva; subst hva; clear hne2; have HRA : Hid (RR w1.heap.size w1 (.slice da ne ca) (ents l)) := hra; have HB1 : Hid (Below w0.heap.size w0 w1) := hb1; clear hra hb1)
  have HB01 : Hid (Below w.heap.size w w1) := HB0.out.trans (HB1.out.mono HB0.out.size)
  refine (show Calls Tryz.prog 55 #[.agg #[.slice none 0 0, .slice none 0 0], .slice da ne ca] w1 _ from HST.out HLE.out w1 _ HB01.out HRA.out).mono ?_
  rintro e w2 ⟨ra, rn, rc, sd, nb, sc, m, rfl, hb2, hrow⟩
  have HB2 : Hid (Below w1.heap.size w1 w2) := hb2
  have HRW : Hid (StRow w1.heap.size w2 (.slice sd nb sc) (stF 25 [] (ents l)).1) := hrow
  clear hb2 hrow
  go_upto_region 6 with fail
  obtain ⟨kb, hkb⟩ : ∃ kb, kb = w2.heap.size := ⟨_, rfl⟩
  obtain ⟨w3, hw3⟩ : ∃ w3, w3 = w2.alloc (.cells #[.slice ra rn rc, .slice sd nb sc] 108) := ⟨_, rfl⟩
  rw [← hkb, ← hw3]
  have hb3 : Below w2.heap.size w2 w3 := by rw [hw3]; exact (Below.refl _ w2).alloc (Nat.le_refl _) _
  have hk3 : w3.heap[kb]? = some (.cells #[.slice ra rn rc, .slice sd nb sc] 108) := by rw [hw3, hkb]; exact alloc_newP _ _
  have hb12 : Below w1.heap.size w1 w3 := HB2.out.trans (hb3.mono HB2.out.size)
  have h01 : Below w0.heap.size w0 w3 := HB1.out.trans (hb12.mono HB1.out.size)
  have h03 : Below w.heap.size w w3 := HB01.out.trans (hb12.mono HB01.out.size)
  have hR3 : RBlk rb w3 := HR0.out.below h01
  have hrb1 : rb < w1.heap.size := Nat.lt_of_lt_of_le HR0.out.lt HB1.out.size
  have HLS : Calls Tryz.prog 56 #[.slice da ne ca] w3.drew fun e w' => e = .returned (.int .i64 (least (ents l))) ∧ w' = w3.drew := refLeast_any w1.heap.size w3.drew _ (ents l) (HRA.out.below (Nat.le_refl _) (hb12.drew)) HE0.out.1 HE0.out.2
  have hS0 : w3.drew.cell? ⟨kb, 1, none⟩ = some (.slice sd nb sc) := by have : w3.drew.heap[kb]? = w3.heap[kb]? := rfl; simp [World.cell?, this, hk3]
  have hne3 : kb ≠ rb := by have := HB2.out.size; omega
  obtain ⟨w5, hw5⟩ : ∃ w5, w5 = (w3.drew.setCell ⟨rb, 0, none⟩ (.int .i64 (least (ents l)))).setCell ⟨rb, 1, none⟩ (.slice sd nb sc) := ⟨_, rfl⟩
  have hRd : RBlk rb w3.drew := ⟨hR3.blk⟩
  obtain ⟨hc0, hc1, hz⟩ := hR3.facts
  have hp := two_set hRd.blk (.int .i64 (least (ents l))) (.slice sd nb sc)
  rw [← hw5] at hp
  have he5 : ∀ j, j ≠ rb → w5.heap[j]? = w3.heap[j]? := fun j hj => by rw [hw5, set_other _ _ _ _ hj, set_other _ _ _ _ hj]; rfl
  have hS5 : w5.cell? ⟨kb, 1, none⟩ = some (.slice sd nb sc) := (World.cell?_of_block (a := ⟨kb, 1, none⟩) (he5 kb hne3)).trans (by simp [World.cell?, hk3])
  have HFIN : Hid (BuildSays w w5 l (least (ents l)) (.slice sd nb sc) (stF 25 [] (ents l)).1) := by
    refine ⟨?_, ((HRW.out.below hb3).same fun g hg => he5 g (by omega)).mono HB01.out.size, HM.out⟩
    rw [hw5]
    exact ((h03.drew).setCell HRB.out _).setCell HRB.out _
  clear hkb hw3 hb3 hk3 hb12 h01 h03 hR3 hrb1 hne3 hRd he5
  refine region_at (S := fun W => W.cell? ⟨kb, 1, none⟩ = some (.slice sd nb sc)) 6 rfl mixedP hS0 (fun _ => ?_)
  refine take_at (i := 0) 18 rfl rfl (by kernel_rfl) (by kernel_rfl) (by kernel_rfl) (fun _ _ _ h => h) (by rfl) (fun w hSw => by (have hSw2 := id hSw; clear hSw; go_simp; first | done | exact rfl)) (by assumption) ?_
  simp only [List.setIfInBounds_toArray, List.set_cons_zero, List.set_cons_succ]
  refine take_at (i := 2) 20 rfl rfl (by kernel_rfl) (by kernel_rfl) (by kernel_rfl) (fun _ _ _ h => h) (by rfl) (fun w hSw => by (have hSw2 := id hSw; clear hSw; go_simp; first | done | exact rfl)) (by assumption) ?_
  simp only [List.setIfInBounds_toArray, List.set_cons_zero, List.set_cons_succ]
  refine take_at (i := 3) 21 rfl rfl (by kernel_rfl) (by kernel_rfl) (by kernel_rfl) (fun _ _ _ h => h) (by rfl) (fun w hSw => by (have hSw2 := id hSw; clear hSw; go_simp; first | done | exact rfl)) (by assumption) ?_
  simp only [List.setIfInBounds_toArray, List.set_cons_zero, List.set_cons_succ]
  refine one_call (i := 1) (w0 := w3.drew) 19 56 #[.slice da ne ca] (by kernel_rfl) rfl rfl (by rfl) (by kernel_rfl) ?_
  refine HLS.mono ?_
  rintro e w4 ⟨rfl, rfl⟩
  refine ⟨_, rfl, hS0, fun _ => ?_⟩
  simp only [List.setIfInBounds_toArray, List.set_cons_zero, List.set_cons_succ]
  refine take_at (i := 4) 22 rfl rfl (by kernel_rfl) (by kernel_rfl) (by kernel_rfl) (fun _ _ _ h => h) (by rfl) (fun w hSw => by (have hSw2 := id hSw; clear hSw; go_simp; first | done | exact rfl)) (by assumption) ?_
  simp only [List.setIfInBounds_toArray, List.set_cons_zero, List.set_cons_succ]
  refine one_skip (i := 5) (w' := w5) (by kernel_rfl) rfl rfl (by rfl) (by rw [hw5]; go_simp; first | done | exact rfl) hS5 (fun _ => ?_)
  refine wpAnyH_done (by kernel_rfl) ?_ _
  clear hw5 hc0 hc1 hz
  go_wp2
  try simp only [Exit.inBlock, Exit.then]
  refine bodyPost_ret (make_results rfl hp.1 hp.2) rfl ?_
  exact ⟨_, _, _, rfl, HFIN.out⟩
end Go.Proofs.YtllmdfkiogmofaaGreatDoor

/- The reference's firsts. -/
namespace Go.Proofs.YtllmdfkiogmofaaGreatDoor
open Go.RowKit Nums Fm
set_option maxRecDepth 100000

namespace Fm
/-- First runes, one more. -/
def fstStep (acc : List Int) (e : En) : List Int := match e.1 with
  | [] => acc
  | c :: _ => if acc.getLast? = some c then acc else acc ++ [c]
def fsts (l : List En) : List Int := l.foldl fstStep []
theorem fsts_snoc {l : List En} {k : Nat} {e : En} (h : l[k]? = some e) : fsts (l.take (k + 1)) = fstStep (fsts (l.take k)) e := by
  rw [List.take_add_one, h]
  show fsts (l.take k ++ [e]) = _
  unfold fsts
  rw [List.foldl_append]
  rfl
theorem fstStep_len (acc : List Int) (e : En) : (fstStep acc e).length ≤ acc.length + 1 := by
  unfold fstStep
  split
  · omega
  · split <;> simp
theorem fstF_len : ∀ (l : List En) (acc : List Int), (l.foldl fstStep acc).length ≤ acc.length + l.length
  | [], _ => Nat.le_refl _
  | e :: r, acc => by
    have h1 := fstF_len r (fstStep acc e)
    have h2 := fstStep_len acc e
    simp only [List.foldl_cons, List.length_cons]
    omega
theorem fsts_len (l : List En) : (fsts l).length ≤ l.length := by have := fstF_len l []; simpa [fsts] using this
def fstMore (acc cs : List Int) : List Int := match cs with
  | [] => []
  | c :: r => if acc.getLast? = some c then r else c :: r
theorem fst_grp : ∀ (l : List En) (acc : List Int), (∀ e ∈ l, e.1 ≠ []) → l.foldl fstStep acc = acc ++ fstMore acc ((grp l).map (·.1))
  | [], acc, _ => by simp [grp, fstMore]
  | e :: r, acc, h => by
    obtain ⟨x, n⟩ := e
    cases x with
    | nil => exact absurd rfl (h ([], n) (by simp))
    | cons c t =>
      have ih := fst_grp r (fstStep acc (c :: t, n)) (fun e he => h e (by simp [he]))
      rw [List.foldl_cons, ih]
      have hst : fstStep acc (c :: t, n) = if acc.getLast? = some c then acc else acc ++ [c] := rfl
      have hlast : (fstStep acc (c :: t, n)).getLast? = some c := by
        rw [hst]
        split
        · assumption
        · simp
      have hhd : hd (c :: t, n) = c := rfl
      rw [grp]
      cases hg : grp r with
      | nil =>
        simp only [List.map_nil, List.map_cons, fstMore, hhd, hst]
        split <;> simp
      | cons p gs =>
        obtain ⟨c', G⟩ := p
        simp only [hhd, List.map_cons, fstMore, hlast]
        by_cases hc : c = c'
        · subst hc
          simp only [if_true, List.map_cons, hst]
          split <;> simp
        · have hc2 : ¬ some c = some c' := fun e => hc (Option.some.inj e)
          simp only [if_neg hc, if_neg hc2, List.map_cons, hst]
          split <;> simp
theorem fsts_grp {S : List En} (h : Rise S) : fsts S = (grp (restOf S)).map (·.1) := by
  obtain ⟨_, h2⟩ := rise_rest h
  have h3 : fsts S = (restOf S).foldl fstStep [] := by
    cases S with
    | nil => rfl
    | cons e r =>
      obtain ⟨x, n⟩ := e
      cases x with
      | nil => rfl
      | cons c t => rfl
  rw [h3, fst_grp _ _ h2, List.nil_append]
  cases (grp (restOf S)).map (·.1) with
  | nil => rfl
  | cons c r => simp [fstMore]
end Fm
def cellI (c : Int) : List Value := [.int .i32 c]
def IOwn (B : Nat) (w : World) (v : Value) (xs : List Int) : Prop := GOwn 21 1 B w v (xs.map cellI)
theorem rtyI : RTy 21 81 1 4 := ⟨by kernel_rfl, ⟨.int .i32 0, by kernel_rfl, rfl⟩, by decide, by decide⟩
theorem IOwn.last {B : Nat} {w : World} {ad : Option Addr} {n cap : Nat} {xs : List Int} (h : IOwn B w (.slice ad n cap) xs) (h0 : 0 < n) : ∃ g, ad = some ⟨g, 0, none⟩ ∧ n = xs.length ∧ ∃ d, xs.getLast? = some d ∧ w.cell? ⟨g, n - 1, none⟩ = some (.int .i32 d) := by
  obtain ⟨a', c', e, _⟩ := GOwn.shape h
  simp only [List.length_map, Value.slice.injEq] at e
  obtain ⟨e1, e2, e3⟩ := e
  subst e2
  obtain ⟨g, cp, e, _, _, _, hc⟩ := GOwn.cell h (by rw [List.length_map]; exact h0)
  simp only [List.length_map, Value.slice.injEq] at e
  obtain ⟨d, hd⟩ : ∃ d, xs[xs.length - 1]? = some d := ⟨xs[xs.length - 1]'(by omega), List.getElem?_eq_getElem _⟩
  refine ⟨g, e.1, rfl, d, by rw [List.getLast?_eq_getElem?]; exact hd, ?_⟩
  have := hc (xs.length - 1) 0 (cellI d) (.int .i32 d) (by rw [List.getElem?_map, hd]; rfl) rfl
  simpa using this
set_option maxHeartbeats 2000000 in
theorem refFirsts_any (E : Nat) (w : World) (v : Value) (l : List En) (h : RR E w v l) (hl : l.length ≤ 1048576) :
    Calls Tryz.prog 87 #[v] w fun e w' => ∃ v', e = .returned v' ∧ IOwn w.heap.size w' v' (fsts l) ∧ Below w.heap.size w w' := by
  obtain ⟨ad, cap, rfl⟩ := h.form
  obtain ⟨n, hn⟩ : ∃ n, l.length = n := ⟨_, rfl⟩
  have HN : Hid (l.length = n) := hn
  rw [hn] at h hl ⊢
  have HR : Hid (RR E w (.slice ad n cap) l) := h
  clear h hn
  go_enter Tryz.func87, Tryz.ntmps87
  go_wp2
  go_loopg [3, 4] n (fun gm s5 s6 wr => ∃ (k : Nat), s6 = .int .i64 k ∧ k ≤ n ∧ n - k ≤ gm ∧ Hid (IOwn w.heap.size wr s5 (fsts (l.take k))) ∧ Hid (Below w.heap.size w wr))
  case atStart => exact ⟨0, rfl, Nat.zero_le _, by omega, GOwn.nil _ _ _ _, Below.refl _ _⟩
  case round =>
    obtain ⟨k, rfl, hk, hgm, HM, HB⟩ := hrel
    obtain ⟨sd, no, sc, hsv⟩ : ∃ sd no sc, u3 = .slice sd no sc := by
      obtain ⟨sd, sc, hsv, _⟩ := GOwn.shape HM.out
      exact ⟨sd, _, sc, hsv⟩
    subst hsv
    by_cases hlt : k < n
    · have hltz : (k : Int) < (n : Int) := by omega
      obtain ⟨x, hxk⟩ : ∃ x, l[k]? = some x := ⟨l[k]'(by have := HN.out; omega), List.getElem?_eq_getElem _⟩
      obtain ⟨g, off, rfl, hg, hx⟩ := HR.out.at (by omega)
      obtain ⟨u, ⟨c0, c1, hr⟩, hck⟩ := hx k x hxk
      obtain ⟨ra, rc, hu, _⟩ := id hr
      obtain ⟨rn, hrn⟩ : ∃ rn, x.1.length = rn := ⟨_, rfl⟩
      rw [hrn] at hu
      subst hu
      have c0r : wr.cell? ⟨g, off + k * 2, none⟩ = some (.slice ra rn rc) := (HB.out.cell (p := ⟨g, off + k * 2, none⟩) hg).trans c0
      have hAF := fsts_snoc hxk
      by_cases hr0 : 0 < rn
      · have hr0z : (0 : Int) < (rn : Int) := by omega
        obtain ⟨gr, o, rfl, hz, hd⟩ := hr.get (k := 0) (by omega)
        clear hz
        obtain ⟨ch, hch⟩ : ∃ ch, x.1.headD 0 = ch := ⟨_, rfl⟩
        rw [Nat.add_zero, List.drop_zero, hch] at hd
        have hgr : gr < w.heap.size := lt_of_cell hd
        have d0 : wr.cell? ⟨gr, o, none⟩ = some (.int .i32 ch) := (HB.out.cell (p := ⟨gr, o, none⟩) hgr).trans hd
        have hAF2 : fsts (l.take (k + 1)) = if (fsts (l.take k)).getLast? = some ch then fsts (l.take k) else fsts (l.take k) ++ [ch] := by
          rw [hAF, fstStep]
          cases hx1 : x.1 with
          | nil => rw [hx1] at hrn; simp at hrn; omega
          | cons a t => rw [hx1] at hch; simp only [List.headD_cons] at hch; rw [hch]
        have HNO : Hid (no = (fsts (l.take k)).length) := by
          obtain ⟨_, _, e, _⟩ := GOwn.shape HM.out
          simp only [List.length_map, Value.slice.injEq] at e
          exact e.2.1
        clear hAF
        by_cases hno : 0 < no
        · obtain ⟨gl, rfl, hzz, d, hd1, hd2⟩ := IOwn.last HM.out hno
          clear hzz
          obtain ⟨m, hm⟩ : ∃ m, m = no - 1 := ⟨_, rfl⟩
          have hnom : no ≤ 1048576 := by
            have h1 := HNO.out
            have h2 := fsts_len (l.take k)
            rw [List.length_take] at h2
            omega
          have hwr : IntKind.i64.wrap ((no : Int) - 1) = (m : Int) := by simp [IntKind.wrap, IntKind.bits, IntKind.signed]; omega
          have hmz : (m : Int) < (no : Int) := by omega
          rw [← hm] at hd2
          clear hm hnom
          have hnoz : ((no : Int) == 0) = false := beq_eq_false_iff_ne.2 (by omega)
          by_cases hdc : d = ch
          · have hdb : (d == ch) = true := beq_iff_eq.2 hdc
            rw [hd1, hdc, if_pos rfl] at hAF2
            have HM2 : Hid (IOwn w.heap.size wr (.slice (some ⟨gl, 0, none⟩) no sc) (fsts (l.take (k + 1)))) := by show IOwn _ _ _ _; rw [hAF2]; exact HM.out
            clear hAF2 hx hr hrn hck c0 c1 hxk hd hd1 hch hdc
            go_upto_region 5 with fail
            go_quiet (fail)
            go_wp2
            go_roundg (n - (k + 1))
            case measure => omega
            case rel => exact ⟨k + 1, by go_num, by omega, Nat.le_refl _, GOwn.below HM2.out (belowN (Below.refl _ wr) _), HB.out.trans ((belowN (Below.refl _ wr) _).mono HB.out.size)⟩
          · have hdb : (d == ch) = false := beq_eq_false_iff_ne.2 hdc
            rw [hd1, if_neg (fun e => hdc (Option.some.inj e))] at hAF2
            have HAF : Hid (fsts (l.take (k + 1)) = fsts (l.take k) ++ [ch]) := hAF2
            clear hAF2 hx hr hrn hck c0 c1 hxk hd hd1 hch hdc
            go_upto_region 5 with fail
            go_quiet (fail)
            go_upto_region 6 with fail
            clear hd2
            obtain ⟨wz, hwz⟩ : ∃ wz, wz = wr.drewN nq := ⟨_, rfl⟩
            rw [← hwz]
            have hbz : Below wr.heap.size wr wz := by rw [hwz]; exact belowN (Below.refl _ wr) nq
            have cz : wz.cell? ⟨g, off + k * 2, none⟩ = some (.slice (some ⟨gr, o, none⟩) rn rc) := by rw [hwz]; exact c0r
            have dz : wz.cell? ⟨gr, o, none⟩ = some (.int .i32 ch) := by rw [hwz]; exact d0
            have HBZ : Hid (Below w.heap.size w wz) := HB.out.trans (hbz.mono HB.out.size)
            have HO : Hid (GOwn 21 1 w.heap.size wz _ ((fsts (l.take k)).map cellI)) := GOwn.below HM.out hbz
            have HLN : Hid (((fsts (l.take k)).map cellI).length < 1099511627776) := by
              have := fsts_len (l.take k)
              show _ < _
              rw [List.length_map]
              rw [List.length_take] at this
              omega
            clear hwz c0r d0 hbz
            go_wp2_with (at_builtin; refine append_g rtyI (by rfl) _ _ [.int .i32 ch] _ rfl w.heap.size _ _ _ _ rfl HO.out rfl rfl ⟨rfl, by simp [Value.oneCell']⟩ HLN.out HBZ.out.size ?_)
            intro v7 w7 ho7 hb7 hg7
            have HB7 : Hid (Below w.heap.size w w7) := HBZ.out.trans hb7
            have HM7 : Hid (IOwn w.heap.size w7 v7 (fsts (l.take (k + 1)))) := by
              show IOwn _ _ _ _
              rw [HAF.out]
              show GOwn _ _ _ _ _ _
              rw [List.map_append]
              exact ho7
            clear ho7 hb7 hg7 cz dz
            go_wp2
            go_roundg (n - (k + 1))
            case measure => omega
            case rel => exact ⟨k + 1, by go_num, by omega, Nat.le_refl _, HM7, HB7⟩
        · have hno0 : no = 0 := by omega
          subst hno0
          have hnoz : (((0 : Nat) : Int) == 0) = true := rfl
          have hl0 : (fsts (l.take k)).getLast? = none := by rw [List.getLast?_eq_none_iff]; exact List.eq_nil_of_length_eq_zero HNO.out.symm
          rw [hl0, if_neg (by simp)] at hAF2
          have HAF : Hid (fsts (l.take (k + 1)) = fsts (l.take k) ++ [ch]) := hAF2
          clear hAF2 hx hr hrn hck c0 c1 hxk hd hch hl0 hno
          go_upto_region 5 with fail
          go_quiet (fail)
          go_upto_region 6 with fail
          obtain ⟨wz, hwz⟩ : ∃ wz, wz = wr.drewN nq := ⟨_, rfl⟩
          rw [← hwz]
          have hbz : Below wr.heap.size wr wz := by rw [hwz]; exact belowN (Below.refl _ wr) nq
          have cz : wz.cell? ⟨g, off + k * 2, none⟩ = some (.slice (some ⟨gr, o, none⟩) rn rc) := by rw [hwz]; exact c0r
          have dz : wz.cell? ⟨gr, o, none⟩ = some (.int .i32 ch) := by rw [hwz]; exact d0
          have HBZ : Hid (Below w.heap.size w wz) := HB.out.trans (hbz.mono HB.out.size)
          have HO : Hid (GOwn 21 1 w.heap.size wz _ ((fsts (l.take k)).map cellI)) := GOwn.below HM.out hbz
          have HLN : Hid (((fsts (l.take k)).map cellI).length < 1099511627776) := by
            have := fsts_len (l.take k)
            show _ < _
            rw [List.length_map]
            rw [List.length_take] at this
            omega
          clear hwz c0r d0 hbz
          go_wp2_with (at_builtin; refine append_g rtyI (by rfl) _ _ [.int .i32 ch] _ rfl w.heap.size _ _ _ _ rfl HO.out rfl rfl ⟨rfl, by simp [Value.oneCell']⟩ HLN.out HBZ.out.size ?_)
          intro v7 w7 ho7 hb7 hg7
          have HB7 : Hid (Below w.heap.size w w7) := HBZ.out.trans hb7
          have HM7 : Hid (IOwn w.heap.size w7 v7 (fsts (l.take (k + 1)))) := by
            show IOwn _ _ _ _
            rw [HAF.out]
            show GOwn _ _ _ _ _ _
            rw [List.map_append]
            exact ho7
          clear ho7 hb7 hg7 cz dz
          go_wp2
          go_roundg (n - (k + 1))
          case measure => omega
          case rel => exact ⟨k + 1, by go_num, by omega, Nat.le_refl _, HM7, HB7⟩
      · have hr0z : ¬ (0 : Int) < (rn : Int) := by omega
        have hx1 : x.1 = [] := List.eq_nil_of_length_eq_zero (by omega)
        rw [fstStep, hx1] at hAF
        have HM2 : Hid (IOwn w.heap.size wr (.slice sd no sc) (fsts (l.take (k + 1)))) := by show IOwn _ _ _ _; rw [hAF]; exact HM.out
        clear hAF hx hr hrn hck c0 c1 hxk hx1
        go_upto_region 5 with fail
        go_quiet (fail)
        go_wp2
        go_roundg (n - (k + 1))
        case measure => omega
        case rel => exact ⟨k + 1, by go_num, by omega, Nat.le_refl _, GOwn.below HM2.out (belowN (Below.refl _ wr) _), HB.out.trans ((belowN (Below.refl _ wr) _).mono HB.out.size)⟩
    · have hltz : ¬ (k : Int) < (n : Int) := by omega
      have HE : Hid (l.take k = l) := List.take_of_length_le (by have := HN.out; omega)
      go_wp2
      go_ret
      exact ⟨_, rfl, by have := HM.out; rwa [HE.out] at this, HB.out⟩
end Go.Proofs.YtllmdfkiogmofaaGreatDoor

/- The reference's state: what is known, in memory. -/
namespace Go.Proofs.YtllmdfkiogmofaaGreatDoor
open Go.RowKit Nums Fm Pm
set_option maxRecDepth 100000

namespace Fm
theorem refA_pre {st : List (List En) → List St → List En → List (List En) × List St × Nat} (h : ∀ D b S, D <+: (st D b S).1) : ∀ (gs : List (Int × List En)) (D : List (List En)) (b : List St), D <+: (refA st D b gs).1
  | [], D, _ => List.prefix_refl D
  | (_, G) :: r, D, b => (h D b G).trans (refA_pre h r _ _)
theorem refF_pre : ∀ (f : Nat) (D : List (List En)) (b : List St) (S : List En), D <+: (refF f D b S).1
  | 0, D, _, _ => List.prefix_refl D
  | f + 1, D, b, S => by
    rw [refF]
    split
    · exact List.prefix_refl D
    · exact (refA_pre (refF_pre f) _ D b).trans (List.prefix_append _ _)
/-- One group more. -/
theorem refA_append (st : List (List En) → List St → List En → List (List En) × List St × Nat) : ∀ (gs hs : List (Int × List En)) (D : List (List En)) (b : List St), refA st D b (gs ++ hs) = ((refA st (refA st D b gs).1 (refA st D b gs).2.1 hs).1, (refA st (refA st D b gs).1 (refA st D b gs).2.1 hs).2.1, (refA st D b gs).2.2 ++ (refA st (refA st D b gs).1 (refA st D b gs).2.1 hs).2.2)
  | [], hs, D, b => by simp [refA]
  | (c, G) :: r, hs, D, b => by
    simp only [List.cons_append, refA]
    rw [refA_append st r hs]
theorem refA_one (st : List (List En) → List St → List En → List (List En) × List St × Nat) (gs : List (Int × List En)) (c : Int) (G : List En) (D : List (List En)) (b : List St) : refA st D b (gs ++ [(c, G)]) = ((st (refA st D b gs).1 (refA st D b gs).2.1 G).1, (st (refA st D b gs).1 (refA st D b gs).2.1 G).2.1, (refA st D b gs).2.2 ++ [⟨c, least G, (st (refA st D b gs).1 (refA st D b gs).2.1 G).2.2⟩]) := by
  rw [refA_append]
  rfl
end Fm
/-- The blocks that are written in place. -/
def fpK (vR vS : Value) (j : Nat) : Prop := vR.ownBlock = some j ∨ vS.ownBlock = some j
/-- The row is the old one's block, or new. -/
def Newer (w : World) (v v' : Value) : Prop := v'.ownBlock = v.ownBlock ∨ ∃ q, v'.ownBlock = some q ∧ w.heap.size ≤ q
/-- States in memory, whose arcs lie in blocks of A. -/
structure StA (A : Nat → Prop) (B : Nat) (w : World) (vs : Value) (b : List St) : Prop where
  ex : ∃ xss, GOwn 61 3 B w vs xss ∧ xss.length = b.length ∧ ∀ (i : Nat) (s : St), b[i]? = some s → ∃ va, xss[i]? = some [.bool s.final, .int .i64 s.out, va] ∧ AOwn B w va s.arcs ∧ ∀ k, va.ownBlock = some k → A k
  lt : ∀ k, A k → k < w.heap.size
theorem StA.row {A : Nat → Prop} {B : Nat} {w : World} {vs : Value} {b : List St} (h : StA A B w vs b) : StRow B w vs b := by
  obtain ⟨xss, h1, h2, h3⟩ := h.ex
  exact ⟨xss, h1, h2, fun i s hi => by obtain ⟨va, e1, e2, _⟩ := h3 i s hi; exact ⟨va, e1, e2⟩⟩
theorem StA.shape {A : Nat → Prop} {B : Nat} {w : World} {vs : Value} {b : List St} (h : StA A B w vs b) : ∃ ad cap, vs = .slice ad b.length cap := h.row.shape
/-- Nothing of it is written. -/
theorem StA.kept {A : Nat → Prop} {B : Nat} {w w' : World} {vs : Value} {b : List St} (h : StA A B w vs b) (hs : w.heap.size ≤ w'.heap.size) (hv : ∀ j, vs.ownBlock = some j → w'.heap[j]? = w.heap[j]?) (hA : ∀ (j : Nat) (cur : Array Value), A j → w.heap[j]? = some (Obj.cells cur 63 (0, 0)) → w'.heap[j]? = w.heap[j]?) : StA A B w' vs b := by
  obtain ⟨xss, h1, h2, h3⟩ := h.ex
  refine ⟨⟨xss, h1.same hv, h2, fun i s hi => ?_⟩, fun k hk => Nat.lt_of_lt_of_le (h.lt k hk) hs⟩
  obtain ⟨va, e1, e2, e3⟩ := h3 i s hi
  exact ⟨va, e1, GOwn.same e2 fun g hg => (by obtain ⟨_, cur, hc⟩ := GOwn.block e2 hg; exact hA g cur (e3 g hg) hc), e3⟩
theorem StA.below {A : Nat → Prop} {B : Nat} {w w' : World} {vs : Value} {b : List St} (h : StA A B w vs b) (hb : Below w.heap.size w w') : StA A B w' vs b := by
  obtain ⟨xss, h1, _, _⟩ := h.ex
  exact h.kept hb.size (fun j hj => hb.block j (h1.lt hj)) (fun j _ hj _ => hb.block j (h.lt j hj))
/-- What is known behind a call. -/
structure KSays (A A' : Nat → Prop) (E B : Nat) (w w' : World) (vR vS vR' vS' : Value) (D : List (List En)) (b : List St) : Prop where
  rests : AllOwn E B w' vR' D
  states : StA A' B w' vS' b
  sub : ∀ j, A' j → A j ∨ w.heap.size ≤ j
  upd : Upd (fpK vR vS) w w'
  ownR : Newer w vR vR'
  ownS : Newer w vS vS'
theorem Newer.refl (w : World) (v : Value) : Newer w v v := .inl rfl
theorem Newer.trans {w w1 : World} {v v1 v2 : Value} (h1 : Newer w v v1) (h2 : Newer w1 v1 v2) (hs : w.heap.size ≤ w1.heap.size) : Newer w v v2 := by
  rcases h2 with h2 | ⟨q, h2, hq⟩
  · rcases h1 with h1 | ⟨q, h1, hq⟩
    · exact .inl (h2.trans h1)
    · exact .inr ⟨q, h2.trans h1, hq⟩
  · exact .inr ⟨q, h2, Nat.le_trans hs hq⟩
theorem Newer.low {w : World} {v v' : Value} (h : Newer w v v') {j : Nat} (hj : j < w.heap.size) (e : v'.ownBlock = some j) : v.ownBlock = some j := by
  rcases h with h | ⟨q, h, hq⟩
  · rw [← h]; exact e
  · rw [h] at e; cases e; omega
theorem KSays.refl {A : Nat → Prop} {E B : Nat} {w : World} {vR vS : Value} {D : List (List En)} {b : List St} (h1 : AllOwn E B w vR D) (h2 : StA A B w vS b) : KSays A A E B w w vR vS vR vS D b := ⟨h1, h2, fun _ h => .inl h, Upd.refl _ _, Newer.refl _ _, Newer.refl _ _⟩
theorem KSays.trans {A A1 A2 : Nat → Prop} {E B : Nat} {w w1 w2 : World} {vR vS vR1 vS1 vR2 vS2 : Value} {D1 D2 : List (List En)} {b1 b2 : List St} (h1 : KSays A A1 E B w w1 vR vS vR1 vS1 D1 b1) (h2 : KSays A1 A2 E B w1 w2 vR1 vS1 vR2 vS2 D2 b2) : KSays A A2 E B w w2 vR vS vR2 vS2 D2 b2 :=
  ⟨h2.rests, h2.states, fun j hj => by
    rcases h2.sub j hj with h | h
    · exact h1.sub j h
    · exact .inr (Nat.le_trans h1.upd.size h), h1.upd.trans h2.upd (fun j hj hf => by
    rcases hf with hf | hf
    · exact .inl (h1.ownR.low hj hf)
    · exact .inr (h1.ownS.low hj hf)), h1.ownR.trans h2.ownR h1.upd.size, h1.ownS.trans h2.ownS h1.upd.size⟩
/-- A row of another type is not written. -/
theorem GOwn.over {T : TypeId} {k B : Nat} {w w' : World} {v vR vS : Value} {xss yss zss : List (List Value)} {BR BS : Nat} (h : GOwn T k B w v xss) (hR : GOwn 77 1 BR w vR yss) (hS : GOwn 61 3 BS w vS zss) (h1 : T ≠ 77) (h2 : T ≠ 61) (hu : Upd (fpK vR vS) w w') : GOwn T k B w' v xss := by
  refine h.same fun g hg => hu.block g (h.lt hg) fun hf => ?_
  obtain ⟨_, c1, e1⟩ := h.block hg
  rcases hf with hf | hf
  · obtain ⟨_, c2, e2⟩ := hR.block hf
    rw [e1] at e2
    simp only [Option.some.injEq, Obj.cells.injEq] at e2
    exact h1 e2.2.1
  · obtain ⟨_, c2, e2⟩ := hS.block hf
    rw [e1] at e2
    simp only [Option.some.injEq, Obj.cells.injEq] at e2
    exact h2 e2.2.1
/-- Rows of other types are written alone. -/
theorem AllOwn.typed {E B : Nat} {w w' : World} {v : Value} {Ds : List (List En)} (h : AllOwn E B w v Ds) (h1 : ∀ (j : Nat) (cur : Array Value), w.heap[j]? = some (Obj.cells cur 77 (0, 0)) → w'.heap[j]? = w.heap[j]?) (h2 : ∀ (j : Nat) (cur : Array Value), w.heap[j]? = some (Obj.cells cur 83 (0, 0)) → w'.heap[j]? = w.heap[j]?) (hE : Below E w w') : AllOwn E B w' v Ds := by
  obtain ⟨xss, a1, a2, a3⟩ := h.ex
  refine ⟨xss, a1.same fun g hg => (by obtain ⟨_, cur, hc⟩ := a1.block hg; exact h1 g cur hc), a2, fun i R hi => ?_⟩
  obtain ⟨u, e1, e2⟩ := a3 i R hi
  obtain ⟨yss, b1, b2, b3⟩ := e2.ex
  refine ⟨u, e1, ⟨yss, b1.same fun g hg => (by obtain ⟨_, cur, hc⟩ := b1.block hg; exact h2 g cur hc), b2, fun j e hj => ?_⟩⟩
  obtain ⟨q, d1, d2, d3⟩ := b3 j e hj
  exact ⟨q, d1, d2.below hE, d3⟩
theorem RMade.typed {E B : Nat} {w w' : World} {v : Value} {S : List En} (h : RMade E B w v S) (h2 : ∀ (j : Nat) (cur : Array Value), w.heap[j]? = some (Obj.cells cur 83 (0, 0)) → w'.heap[j]? = w.heap[j]?) (hE : Below E w w') : RMade E B w' v S := by
  obtain ⟨yss, b1, b2, b3⟩ := h.ex
  refine ⟨yss, b1.same fun g hg => (by obtain ⟨_, cur, hc⟩ := b1.block hg; exact h2 g cur hc), b2, fun j e hj => ?_⟩
  obtain ⟨q, d1, d2, d3⟩ := b3 j e hj
  exact ⟨q, d1, d2.below hE, d3⟩
theorem Fm.refA_len (st : List (List En) → List St → List En → List (List En) × List St × Nat) : ∀ (gs : List (Int × List En)) (D : List (List En)) (b : List St), (refA st D b gs).2.2.length = gs.length
  | [], _, _ => rfl
  | (_, G) :: r, D, b => by simp only [refA, List.length_cons, refA_len st r]
/-- The same, where the box kb of what is known is written too. -/
theorem GOwn.over3 {T : TypeId} {k B kb : Nat} {w w' : World} {v vR vS x y : Value} {xss yss zss : List (List Value)} {BR BS : Nat} (h : GOwn T k B w v xss) (hR : GOwn 77 1 BR w vR yss) (hS : GOwn 61 3 BS w vS zss) (hK : w.heap[kb]? = some (.cells #[x, y] 108)) (h1 : T ≠ 77) (h2 : T ≠ 61) (h3 : T ≠ 108) (hu : Upd (fun j => fpK vR vS j ∨ j = kb) w w') : GOwn T k B w' v xss := by
  refine h.same fun g hg => hu.block g (h.lt hg) fun hf => ?_
  obtain ⟨_, c1, e1⟩ := h.block hg
  rcases hf with (hf | hf) | hf
  · obtain ⟨_, c2, e2⟩ := hR.block hf
    rw [e1] at e2
    simp only [Option.some.injEq, Obj.cells.injEq] at e2
    exact h1 e2.2.1
  · obtain ⟨_, c2, e2⟩ := hS.block hf
    rw [e1] at e2
    simp only [Option.some.injEq, Obj.cells.injEq] at e2
    exact h2 e2.2.1
  · rw [hf, hK] at e1
    simp only [Option.some.injEq, Obj.cells.injEq] at e1
    exact h3 e1.2.1.symm
end Go.Proofs.YtllmdfkiogmofaaGreatDoor
