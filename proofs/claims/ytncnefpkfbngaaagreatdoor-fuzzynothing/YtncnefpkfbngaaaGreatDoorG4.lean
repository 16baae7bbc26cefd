/- Texts that were written apart, joined. -/
import Derived.Test.YtncnefpkfbngaaaGreatDoorG1
import Derived.Test.YtncnefpkfbngaaaGreatDoorG3
import Derived.WalkMore
import Derived.Laws.EntriesVeiled
/- unlike: no two states alike. -/
namespace Go.Proofs.YtncnefpkfbngaaaGreatDoor
open Go.RowKit Nums Fm Pk
set_option maxRecDepth 100000

/-- Two states of the row, as the region reads them. -/
structure SU (g k : Nat) (s t : RSt) (va vb : Value) (w0 w : World) : Prop where
 a0 : w.cell? ⟨g, k * 3, none⟩ = some (.bool s.final)
 a1 : w.cell? ⟨g, k * 3 + 1, none⟩ = some (.int .i64 s.out)
 a2 : w.cell? ⟨g, k * 3 + 2, none⟩ = some va
 b0 : w.cell? ⟨g, (k + 1) * 3, none⟩ = some (.bool t.final)
 b1 : w.cell? ⟨g, (k + 1) * 3 + 1, none⟩ = some (.int .i64 t.out)
 b2 : w.cell? ⟨g, (k + 1) * 3 + 2, none⟩ = some vb
 gr : Gr w0 w
theorem SU.facts {g k : Nat} {s t : RSt} {va vb : Value} {w0 w : World} (h : SU g k s t va vb w0 w) : w.cell? ⟨g, k * 3, none⟩ = some (.bool s.final) ∧ w.cell? ⟨g, k * 3 + 1, none⟩ = some (.int .i64 s.out) ∧ w.cell? ⟨g, k * 3 + 2, none⟩ = some va ∧ w.cell? ⟨g, (k + 1) * 3, none⟩ = some (.bool t.final) ∧ w.cell? ⟨g, (k + 1) * 3 + 1, none⟩ = some (.int .i64 t.out) ∧ w.cell? ⟨g, (k + 1) * 3 + 2, none⟩ = some vb := ⟨h.a0, h.a1, h.a2, h.b0, h.b1, h.b2⟩
theorem SU.grow {g k : Nat} {s t : RSt} {va vb : Value} {w0 w w' : World} (h : SU g k s t va vb w0 w) (hg : g < w0.heap.size) (hr : Gr w w') : SU g k s t va vb w0 w' := by
 have e : ∀ j, w'.cell? ⟨g, j, none⟩ = w.cell? ⟨g, j, none⟩ := fun j => hr.bel.cell (p := ⟨g, j, none⟩) (Nat.lt_of_lt_of_le hg h.gr.bel.size)
 exact ⟨(e _).trans h.a0, (e _).trans h.a1, (e _).trans h.a2, (e _).trans h.b0, (e _).trans h.b1, (e _).trans h.b2, h.gr.trans hr⟩
set_option maxHeartbeats 4000000 in
theorem unlike_any (E : Nat) (w : World) (m : List RSt) (vs : Value) (h : StsAt E w vs m) (hE : E ≤ w.heap.size) (hF : formB 0 m = true) (hm : m.length ≤ 1048576) (h0 : m ≠ []) :
 Calls Tryz.prog 75 #[vs] w fun e w' => e = .returned (.bool (decide m.Nodup)) ∧ Below w.heap.size w w' := by
 obtain ⟨xss, hR, hxl, hx⟩ := h.ex
 have hX : StX E w xss m := ⟨hxl, hx, fun s hs => by
  obtain ⟨i, hi, rfl⟩ := List.getElem_of_mem hs
  have := form_get m 0 i _ hF (List.getElem?_eq_getElem hi)
  exact (form_facts this).2.2⟩
 obtain ⟨ad, cap, rfl⟩ := h.shape
 have hpos := List.length_pos_iff.2 h0
 obtain ⟨n, hn⟩ : ∃ n, m.length = n + 1 := ⟨m.length - 1, by omega⟩
 have HN : Hid (m.length = n + 1) := hn
 have HX : Hid (StX E w xss m) := hX
 have HCL : Hid (Calls Tryz.prog 96 #[.slice ad (n + 1) cap] w fun e w' => ∃ g cap, e = .returned (.slice (some ⟨g, 0, none⟩) (n + 1) cap) ∧ GOwn 88 3 w.heap.size w' (.slice (some ⟨g, 0, none⟩) (n + 1) cap) xss ∧ Below w.heap.size w w') := by
  have := cloneS_any E w xss m _ hR hX h0 hm
  rw [hn] at this
  exact this
 have HSO : Hid (∀ w1 g cap, GOwn 88 3 w.heap.size w1 (.slice (some ⟨g, 0, none⟩) (n + 1) cap) xss → Below w.heap.size w w1 → Calls Tryz.prog 97 #[.slice (some ⟨g, 0, none⟩) (n + 1) cap, .func (.func 98) #[] #[]] w1 fun e w' => e = .returned (.tuple #[]) ∧ ∃ d : Array Nat, d.size = m.length ∧ d.toList.Perm (List.range m.length) ∧ Go.Sort.SortedIn (ltOf (cfS m)) 0 m.length d ∧ Go.Sort.HoldsK (encS xss) 3 w' g 0 d ∧ Below w.heap.size w1 w') := fun w1 g cap ho hb => by
  have := sortS_any E w.heap.size w1 xss m g cap (by rw [hn]; exact ho) (hX.below (hb.mono hE)) hE hb.size h0 hm
  rw [hn] at this ⊢
  exact this
 rw [hn] at hm ⊢
 clear h hR hxl hx hX hn hF
 go_enter Tryz.func75, Tryz.ntmps75
 go_upto_region 2 with (go_at_call 96; refine HCL.out.mono ?_; rintro e w1 ⟨g, gc, rfl, ho1, hb1⟩; have HO1 : Hid (GOwn 88 3 w.heap.size w1 (.slice (some ⟨g, 0, none⟩) (n + 1) gc) xss) := ho1; have HB1 : Hid (Below w.heap.size w w1) := hb1; clear ho1 hb1)
 go_upto_region 3 with (go_at_call 97; refine (HSO.out w1 g gc HO1.out HB1.out).mono ?_; rintro e w2 ⟨rfl, d, hd1, hd2, hd3, hd4, hb2⟩)
 have hgc : n + 1 ≤ gc := by
  obtain ⟨_, c', e, hc⟩ := HO1.out.shape
  simp only [Value.slice.injEq] at e
  omega
 have hgw : g < w2.heap.size := Nat.lt_of_lt_of_le (HO1.out.lt (g := g) rfl) hb2.size
 have HBW : Hid (Below w.heap.size w w2) := HB1.out.trans (hb2.mono (Nat.le_refl _))
 have HD : Hid (d.size = m.length ∧ d.toList.Perm (List.range m.length) ∧ Go.Sort.SortedIn (ltOf (cfS m)) 0 m.length d ∧ Go.Sort.HoldsK (encS xss) 3 w2 g 0 d) := ⟨hd1, hd2, hd3, hd4⟩
 have HX2 : Hid (StX E w2 xss m) := HX.out.below (HBW.out.mono hE)
 have hgcz : ((n : Int) + 1) ≤ (gc : Int) := by omega
 clear hd1 hd2 hd3 hd4 hb2
 go_wp2
 all_goals
  go_loopg [4, 12] n (fun gm _ s12 wr => ∃ (k : Nat), s12 = .int .i64 k ∧ k ≤ n ∧ n - k ≤ gm ∧ Hid (∀ i, i < k → cfS m d[i]! d[i + 1]! ≠ 0) ∧ Hid (Gr w2 wr))
  case atStart => exact ⟨0, rfl, Nat.zero_le _, by omega, fun i hi => absurd hi (Nat.not_lt_zero _), Gr.refl _⟩
  case round =>
   obtain ⟨k, rfl, hk, hgm, HA, HG⟩ := hrel
   by_cases hlt : k < n
   · have hltz : (k : Int) < (n : Int) := by omega
     have hn1 := HN.out
     have hds := HD.out.1
     obtain ⟨va, ea, haa, hla, _⟩ := encS_get HX2.out d[k]!
     obtain ⟨vb, eb, hbb, hlb, _⟩ := encS_get HX2.out d[k + 1]!
     obtain ⟨s, hs⟩ : ∃ s, m.getD d[k]! zS = s := ⟨_, rfl⟩
     obtain ⟨t, ht⟩ : ∃ t, m.getD d[k + 1]! zS = t := ⟨_, rfl⟩
     rw [hs] at ea haa hla
     rw [ht] at eb hbb hlb
     have hcell : ∀ (i c : Nat), i < d.size → c < 3 → wr.cell? ⟨g, i * 3 + c, none⟩ = some (encS xss d[i]!)[c]! := fun i c hi hc => by
      have := (HD.out.2.2.2.cell hi hc).1
      rw [Nat.zero_add] at this
      exact (HG.out.bel.cell (p := ⟨g, i * 3 + c, none⟩) hgw).trans this
     have hS : SU g k s t va vb w2 wr := by
      have a0 := hcell k 0 (by omega) (by omega)
      have a1 := hcell k 1 (by omega) (by omega)
      have a2 := hcell k 2 (by omega) (by omega)
      have b0 := hcell (k + 1) 0 (by omega) (by omega)
      have b1 := hcell (k + 1) 1 (by omega) (by omega)
      have b2 := hcell (k + 1) 2 (by omega) (by omega)
      rw [ea] at a0 a1 a2
      rw [eb] at b0 b1 b2
      exact ⟨a0, a1, a2, b0, b1, b2, HG.out⟩
     obtain ⟨vd, vc, hva⟩ := haa.shape
     obtain ⟨ud, uc, hvb⟩ := hbb.shape
     obtain ⟨na, hna⟩ : ∃ na, s.arcs.length = na := ⟨_, rfl⟩
     obtain ⟨nb, hnb⟩ : ∃ nb, t.arcs.length = nb := ⟨_, rfl⟩
     rw [hna] at hva
     rw [hnb] at hvb
     subst hva
     subst hvb
     have hS0 := hS.grow hgw ((Gr.refl wr).drew)
     have hE2 : E ≤ w2.heap.size := Nat.le_trans hE HBW.out.size
     have hbd : Below E w2 wr.drew := (HG.out.drew).bel.mono hE2
     have HCS : Hid (Calls Tryz.prog 98 #[.agg #[.bool s.final, .int .i64 s.out, .slice vd na vc], .agg #[.bool t.final, .int .i64 t.out, .slice ud nb uc]] wr.drew fun e w' => e = .returned (.int .i64 (cfS m d[k]! d[k + 1]!)) ∧ Gr wr.drew w') := by
      have := compareStates_any E s t _ _ wr.drew (haa.below hbd) (hbb.below hbd) (Nat.le_trans hE2 hbd.size) hla hlb
      unfold cfS
      rw [hs, ht]
      exact this
     have HS0 : Hid (SU g k s t (.slice vd na vc) (.slice ud nb uc) w2 wr.drew) := hS0
     have HK1 : Hid (cfS m d[k]! d[k + 1]! = 0 → ¬ m.Nodup) := fun h => dup_adj hds HD.out.2.1 (by omega) h
     have HK2 : Hid (cfS m d[k]! d[k + 1]! ≠ 0 → ∀ i, i < k + 1 → cfS m d[i]! d[i + 1]! ≠ 0) := fun h i hi => by
      by_cases hik : i = k
      · rw [hik]; exact h
      · exact HA.out i (by omega)
     have hk1 : IntKind.i64.wrap ((k : Int) + 1) = (k : Int) + 1 := by rw [IntKind.wrap_i64]; omega
     have hk2 : (k : Int) + 1 < (n : Int) + 1 := by omega
     have hk3 : (0 : Int) ≤ (k : Int) + 1 := by omega
     have hk4 : ((k : Int) + 1).toNat = k + 1 := by omega
     have hk5 : (k : Int) < (n : Int) + 1 := by omega
     clear hs ht hcell hS ea eb haa hbb hna hnb hds hn1
     generalize cfS m d[k]! d[k + 1]! = c at HCS HK1 HK2
     go_upto_region 6 with fail
     refine region_at (S := SU g k s t (.slice vd na vc) (.slice ud nb uc) w2) 11 rfl mixedP hS0 (fun _ => ?_)
     refine tk (i := 0) 15 rfl rfl (by kernel_rfl) (fun _ s => by (have h := SU.facts s; clear s; go_simp; first | done | exact rfl)) ?_
     simp only [sZa, sZb, sZc]
     refine tk (i := 1) 16 rfl rfl (by kernel_rfl) (fun _ s => by (have h := SU.facts s; clear s; go_simp; first | done | exact rfl)) ?_
     simp only [sZa, sZb, sZc]
     refine tk (i := 2) 17 rfl rfl (by kernel_rfl) (fun _ s => by (have h := SU.facts s; clear s; go_simp; first | done | exact rfl)) ?_
     simp only [sZa, sZb, sZc]
     refine tk (i := 3) 18 rfl rfl (by kernel_rfl) (fun _ s => by (have h := SU.facts s; clear s; go_simp; first | done | exact rfl)) ?_
     simp only [sZa, sZb, sZc]
     refine tk (i := 4) 19 rfl rfl (by kernel_rfl) (fun _ s => by (have h := SU.facts s; clear s; go_simp; first | done | exact rfl)) ?_
     simp only [sZa, sZb, sZc]
     refine tk (i := 5) 20 rfl rfl (by kernel_rfl) (fun _ s => by (have h := SU.facts s; clear s; go_simp; first | done | exact rfl)) ?_
     simp only [sZa, sZb, sZc]
     refine tk (i := 6) (v := .int .i64 ((k : Int) + 1)) 21 rfl rfl (by kernel_rfl) (fun _ s => by (have h := SU.facts s; clear s; go_simp; first | done | exact rfl | simp_all | (simp; omega))) ?_
     simp only [sZa, sZb, sZc]
     refine tk (i := 7) 22 rfl rfl (by kernel_rfl) (fun _ s => by (have h := SU.facts s; clear s; go_simp; first | done | exact rfl)) ?_
     simp only [sZa, sZb, sZc]
     refine tk (i := 8) 23 rfl rfl (by kernel_rfl) (fun _ s => by (have h := SU.facts s; clear s; go_simp; first | done | exact rfl)) ?_
     simp only [sZa, sZb, sZc]
     refine one_call (i := 9) (w0 := wr.drew) 24 98 #[.agg #[.bool s.final, .int .i64 s.out, .slice vd na vc], .agg #[.bool t.final, .int .i64 t.out, .slice ud nb uc]] (by kernel_rfl) rfl rfl (by rfl) (by kernel_rfl) ?_
     refine HCS.out.mono ?_
     rintro e w3 ⟨rfl, hg3⟩
     have hS3 := HS0.out.grow hgw hg3
     have HG3 : Hid (Gr w2 w3) := hS3.gr
     refine ⟨_, rfl, hS3, fun _ => ?_⟩
     simp only [sZa, sZb, sZc]
     by_cases hc : c = 0
     · subst hc
       have HF : Hid (decide m.Nodup = false) := decide_eq_false (HK1.out rfl)
       refine tk (i := 10) (v := .bool true) 25 rfl rfl (by kernel_rfl) (fun _ s => by (have h := SU.facts s; clear s; go_simp; first | done | exact rfl | simp_all | (simp; omega))) ?_
       simp only [sZa, sZb, sZc]
       refine wpAnyH_done (by kernel_rfl) ?_ _
       go_wp2
       go_ret
       exact ⟨by rw [HF.out]; rfl, HBW.out.trans (HG3.out.bel.mono HBW.out.size)⟩
     · have HF : Hid (∀ i, i < k + 1 → cfS m d[i]! d[i + 1]! ≠ 0) := HK2.out hc
       have h1b : (c == 0) = false := beq_eq_false_iff_ne.2 hc
       refine tk (i := 10) (v := .bool false) 25 rfl rfl (by kernel_rfl) (fun _ s => by (have h := SU.facts s; clear s; go_simp; first | done | exact rfl | simp_all | (simp; omega))) ?_
       simp only [sZa, sZb, sZc]
       refine wpAnyH_done (by kernel_rfl) ?_ _
       go_wp2
       go_roundg (n - (k + 1))
       case measure => omega
       case rel => exact ⟨k + 1, by go_num, by omega, Nat.le_refl _, HF, HG3⟩
   · have hltz : ¬ (k : Int) < (n : Int) := by omega
     have hkn : k = n := by omega
     have HF : Hid (decide m.Nodup = true) := by
      refine decide_eq_true (nodup_adj HD.out.1 HD.out.2.1 HD.out.2.2.1 fun i hi => ?_)
      have := HN.out
      exact HA.out i (by omega)
     go_wp2
     go_ret
     exact ⟨by rw [HF.out]; rfl, HBW.out.trans (HG.out.bel.mono HBW.out.size)⟩
end Go.Proofs.YtncnefpkfbngaaaGreatDoor

/- numbered: the numbers anew. -/
namespace Go.Proofs.YtncnefpkfbngaaaGreatDoor
open Go.RowKit Nums Fm Pk
set_option maxRecDepth 100000

def visitF (sb ab nb vb : Nat) : Value := .func (.func 95) #[] #[.pointer (some ⟨sb, 0, none⟩), .pointer (some ⟨ab, 0, none⟩), .pointer (some ⟨nb, 0, none⟩), .pointer (some ⟨vb, 0, none⟩)]
/-- The boxes of the closure. -/
structure NumAt (w : World) (sb ab nb vb : Nat) (vs : Value) (am : Bool) (nx : Int) : Prop where
 s : w.heap[sb]? = some (.cells #[vs] 61)
 a : w.heap[ab]? = some (.cells #[.bool am] 4)
 n : w.heap[nb]? = some (.cells #[.int .i64 nx] 3)
 v : w.heap[vb]? = some (.cells #[visitF sb ab nb vb] 157)
theorem NumAt.facts {w : World} {sb ab nb vb : Nat} {vs : Value} {am : Bool} {nx : Int} (h : NumAt w sb ab nb vb vs am nx) : w.cell? ⟨sb, 0, none⟩ = some vs ∧ w.cell? ⟨ab, 0, none⟩ = some (.bool am) ∧ w.cell? ⟨nb, 0, none⟩ = some (.int .i64 nx) ∧ w.cell? ⟨vb, 0, none⟩ = some (visitF sb ab nb vb) ∧ (∀ o, w.frozen? ⟨ab, o, none⟩ = false) ∧ (∀ o, w.frozen? ⟨nb, o, none⟩ = false) :=
 ⟨by simp [World.cell?, h.s], by simp [World.cell?, h.a], by simp [World.cell?, h.n], by simp [World.cell?, h.v], fun o => by simp [World.frozen?, h.a], fun o => by simp [World.frozen?, h.n]⟩
theorem NumAt.below {w w' : World} {sb ab nb vb : Nat} {vs : Value} {am : Bool} {nx : Int} (h : NumAt w sb ab nb vb vs am nx) (hb : Below w.heap.size w w') : NumAt w' sb ab nb vb vs am nx :=
 ⟨(hb.block _ (Array.getElem?_eq_some_iff.1 h.s).1).trans h.s, (hb.block _ (Array.getElem?_eq_some_iff.1 h.a).1).trans h.a, (hb.block _ (Array.getElem?_eq_some_iff.1 h.n).1).trans h.n, (hb.block _ (Array.getElem?_eq_some_iff.1 h.v).1).trans h.v⟩
/-- The boxes are apart. -/
structure Boxes (E sb ab nb vb : Nat) : Prop where
 ea : E ≤ ab
 en : E ≤ nb
 an : ab ≠ nb
 sa : sb ≠ ab
 sn : sb ≠ nb
 va : vb ≠ ab
 vn : vb ≠ nb
theorem NumAt.setA {E : Nat} {w : World} {sb ab nb vb : Nat} {vs : Value} {am : Bool} {nx : Int} (h : NumAt w sb ab nb vb vs am nx) (hp : Boxes E sb ab nb vb) (A : Bool) : NumAt (w.setCell ⟨ab, 0, none⟩ (.bool A)) sb ab nb vb vs A nx :=
 ⟨(set_other _ _ _ _ hp.sa).trans h.s, by rw [set_at h.a]; rfl, (set_other _ _ _ _ (fun e => hp.an e.symm)).trans h.n, (set_other _ _ _ _ hp.va).trans h.v⟩
theorem NumAt.setN {E : Nat} {w : World} {sb ab nb vb : Nat} {vs : Value} {am : Bool} {nx : Int} (h : NumAt w sb ab nb vb vs am nx) (hp : Boxes E sb ab nb vb) (x : Int) : NumAt (w.setCell ⟨nb, 0, none⟩ (.int .i64 x)) sb ab nb vb vs am x :=
 ⟨(set_other _ _ _ _ hp.sn).trans h.s, (set_other _ _ _ _ hp.an).trans h.a, by rw [set_at h.n]; rfl, (set_other _ _ _ _ hp.vn).trans h.v⟩
theorem upd_end {ab nb : Nat} {w wr : World} (h : Upd (fun j => j = ab ∨ j = nb) w wr) (x y : Value) : Upd (fun j => j = ab ∨ j = nb) w ((wr.setCell ⟨ab, 0, none⟩ x).setCell ⟨nb, 0, none⟩ y) := by
 obtain ⟨a1, a2, a3, a4⟩ := set_rest wr ab 0 x
 obtain ⟨b1, b2, b3, b4⟩ := set_rest (wr.setCell ⟨ab, 0, none⟩ x) nb 0 y
 exact ⟨(b1.trans a1).trans h.os, (b2.trans a2).trans h.tape, (b3.trans a3).trans h.output, by rw [b4, a4]; exact h.size, fun j hj hn => (set_other _ _ _ _ (fun e => hn (.inr e))).trans ((set_other _ _ _ _ (fun e => hn (.inl e))).trans (h.block j hj hn))⟩
/-- What a visit says. -/
def VisSays (m : List RSt) (f n next : Nat) (am : Bool) (nx : Int) : Prop := (am = false ∧ ∃ k : Nat, nx = k ∧ vis8 m f n next = some k) ∨ (am = true ∧ vis8 m f n next = none)
namespace Pk
theorem vArcs_at {V : Nat → Nat → Option Nat} {l : List RArc} {k next : Nat} {a : RArc} (h : l[k]? = some a) : vArcs V (l.drop k) next = if (next : Int) ≤ a.to then (V a.to.toNat next).bind (vArcs V (l.drop (k + 1))) else vArcs V (l.drop (k + 1)) next := by
 obtain ⟨hk, rfl⟩ := List.getElem?_eq_some_iff.1 h
 rw [List.drop_eq_getElem_cons hk, vArcs]
end Pk
/-- While arcs are gone through. -/
structure VLoop (E : Nat) (w wr : World) (sb ab nb vb : Nat) (vs : Value) (m : List RSt) (V : Nat → Nat → Option Nat) (arcs : List RArc) (next k : Nat) (am : Bool) (nx : Int) : Prop where
 num : NumAt wr sb ab nb vb vs am nx
 upd : Upd (fun j => j = ab ∨ j = nb) w wr
 go : am = false → ∃ q : Nat, nx = q ∧ vArcs V arcs next = vArcs V (arcs.drop k) q
 no : am = true → vArcs V arcs next = none
set_option maxHeartbeats 4000000 in
theorem visit_any (E : Nat) (m : List RSt) (ad : Option Addr) (cap sb ab nb vb : Nat) (hF : formB 0 m = true) (hm : m.length ≤ 1048576) (hap : Boxes E sb ab nb vb) :
 ∀ (f n next : Nat) (w : World), n < f → n < m.length → next ≤ 1048576 → StsAt E w (.slice ad m.length cap) m → E ≤ w.heap.size → NumAt w sb ab nb vb (.slice ad m.length cap) false next →
 Calls Tryz.prog 95 #[.int .i64 n, .pointer (some ⟨sb, 0, none⟩), .pointer (some ⟨ab, 0, none⟩), .pointer (some ⟨nb, 0, none⟩), .pointer (some ⟨vb, 0, none⟩)] w fun e w' => e = .returned (.tuple #[]) ∧ ∃ am nx, NumAt w' sb ab nb vb (.slice ad m.length cap) am nx ∧ VisSays m f n next am nx ∧ Upd (fun j => j = ab ∨ j = nb) w w'
 | 0, n, _, _, hn, _, _, _, _, _ => absurd hn (by omega)
 | f + 1, n, next, w, hn, hnm, hnx, hS, hE, hN => by
  obtain ⟨s, hs⟩ : ∃ s, m[n]? = some s := ⟨m[n], List.getElem?_eq_getElem hnm⟩
  have hFS := form_get m 0 n s hF hs
  rw [Nat.zero_add] at hFS
  obtain ⟨q1, q2, q3⟩ := form_facts hFS
  obtain ⟨ml, hml⟩ : ∃ ml, m.length = ml := ⟨_, rfl⟩
  have HML : Hid (m.length = ml) := hml
  rw [hml] at hnm hm hS hN ⊢
  obtain ⟨g, off, va, rfl, hg, c0, c1, c2, hA⟩ := hS.at hs
  obtain ⟨vd, vc, hva⟩ := hA.shape
  obtain ⟨na, hna⟩ : ∃ na, s.arcs.length = na := ⟨_, rfl⟩
  have HNA : Hid (s.arcs.length = na) := hna
  rw [hna] at hva q3
  subst hva
  have hnz : (n : Int) < (ml : Int) := by omega
  have HIH : Hid (∀ (n next : Nat) (w : World), n < f → n < m.length → next ≤ 1048576 → StsAt E w (.slice (some ⟨g, off, none⟩) m.length cap) m → E ≤ w.heap.size → NumAt w sb ab nb vb (.slice (some ⟨g, off, none⟩) m.length cap) false next →
   Calls Tryz.prog 95 #[.int .i64 n, .pointer (some ⟨sb, 0, none⟩), .pointer (some ⟨ab, 0, none⟩), .pointer (some ⟨nb, 0, none⟩), .pointer (some ⟨vb, 0, none⟩)] w fun e w' => e = .returned (.tuple #[]) ∧ ∃ am nx, NumAt w' sb ab nb vb (.slice (some ⟨g, off, none⟩) m.length cap) am nx ∧ VisSays m f n next am nx ∧ Upd (fun j => j = ab ∨ j = nb) w w') := visit_any E m _ cap sb ab nb vb hF (by omega) hap f
  obtain ⟨f0, f1, f2, f3, f4, f5⟩ := hN.facts
  have HL0 : Hid (VLoop E w w sb ab nb vb (.slice (some ⟨g, off, none⟩) ml cap) m (vis8 m f) s.arcs next 0 false next) := ⟨hN, Upd.refl _ _, fun _ => ⟨next, rfl, rfl⟩, fun h => by cases h⟩
  have HV8 : Hid (vis8 m (f + 1) n next = (vArcs (vis8 m f) s.arcs next).bind fun k => if n = k then some (k + 1) else none) := by
   show _ = _
   rw [vis8, List.getD_eq_getElem?_getD, hs]
   rfl
  have HS : Hid (StsAt E w (.slice (some ⟨g, off, none⟩) ml cap) m) := hS
  have HA : Hid (ArcsAt E w (.slice vd na vc) s.arcs) := hA
  clear hs hFS hS hN hA hF
  go_enter Tryz.func95, Tryz.ntmps95
  go_wp2
  go_step3
  go_wp2
  go_step3
  go_wp2
  go_loopg [7, 14] na (fun gm _ s14 wr => ∃ (k : Nat) (am : Bool) (nx : Int), s14 = .int .i64 k ∧ k ≤ na ∧ na - k ≤ gm ∧ Hid (VLoop E w wr sb ab nb vb (.slice (some ⟨g, off, none⟩) ml cap) m (vis8 m f) s.arcs next k am nx))
  case atStart => exact ⟨0, false, next, rfl, Nat.zero_le _, by omega, HL0⟩
  case round =>
   obtain ⟨k, am, nx, rfl, hk, hgm, HL⟩ := hrel
   clear f0 f1 f2 f3 f4 f5
   obtain ⟨f0, f1, f2, f3, f4, f5⟩ := HL.out.num.facts
   have hbE : Below E w wr := HL.out.upd.below hE (fun j hj => hj.elim (fun e => e ▸ hap.ea) (fun e => e ▸ hap.en))
   have HBE : Hid (Below E w wr) := hbE
   have hEr : E ≤ wr.heap.size := Nat.le_trans hE HL.out.upd.size
   by_cases hlt : k < na
   · have hltz : (k : Int) < (na : Int) := by omega
     obtain ⟨x, hx⟩ : ∃ x, s.arcs[k]? = some x := ⟨s.arcs[k]'(by have := HNA.out; omega), List.getElem?_eq_getElem _⟩
     obtain ⟨ag, aoff, rfl, hag, d0, d1, d2⟩ := (HA.out.below hbE).at hx
     obtain ⟨p0, p1, _⟩ := q1 x (List.mem_of_getElem? hx)
     obtain ⟨t, ht⟩ : ∃ t : Nat, x.to = (t : Int) := ⟨x.to.toNat, by omega⟩
     rw [ht] at d2 p0 p1
     obtain ⟨xb, hxb⟩ : ∃ xb, xb = wr.heap.size := ⟨_, rfl⟩
     obtain ⟨W1, hW1⟩ : ∃ W1, W1 = wr.alloc (.cells #[.int .i32 x.label, .int .i64 x.out, .int .i64 (t : Int)] 110) := ⟨_, rfl⟩
     have hb1 : Below wr.heap.size wr W1 := by rw [hW1]; exact (Below.refl _ wr).alloc (Nat.le_refl _) _
     have hn1 : W1.heap[xb]? = some (.cells #[.int .i32 x.label, .int .i64 x.out, .int .i64 (t : Int)] 110) := by rw [hW1, hxb]; exact alloc_newP _ _
     have HN1 := HL.out.num.below hb1
     have HU1 : Hid (Upd (fun j => j = ab ∨ j = nb) w W1) := HL.out.upd.trans (Upd.of_below hb1 : Upd (fun _ => False) wr W1) (fun _ _ h => h.elim)
     have HNN : Hid (NumAt W1 sb ab nb vb (.slice (some ⟨g, off, none⟩) ml cap) am nx) := HN1
     have e2 : W1.cell? ⟨xb, 2, none⟩ = some (.int .i64 (t : Int)) := by simp [World.cell?, hn1]
     obtain ⟨g0, g1, g2, g3, g4, g5⟩ := HN1.facts
     unfold visitF at g3
     have HE1 : Hid (E ≤ W1.heap.size) := Nat.le_trans hEr hb1.size
     have HBE1 : Hid (Below E w W1) := hbE.trans (hb1.mono hEr)
     cases am with
     | true =>
      have HVN : Hid (vis8 m (f + 1) n next = none) := by show _ = _; rw [HV8.out, HL.out.no rfl]; rfl
      have k2 := fun A => ((HNN.out.setA hap A).facts).2.2.1
      have k5 := fun A => ((HNN.out.setA hap A).facts).2.2.2.2.2
      clear hx hn1 hb1 HN1
      go_upto_region 3 with fail
      rw [← hxb, ← hW1]
      clear hxb hW1 d0 d1 d2 f0 f1 f2 f3 f4 f5
      have HFIN : Hid (∀ x, NumAt ((W1.setCell ⟨ab, 0, none⟩ (.bool true)).setCell ⟨nb, 0, none⟩ (.int .i64 x)) sb ab nb vb (.slice (some ⟨g, off, none⟩) ml cap) true x) := fun x => (HNN.out.setA hap true).setN hap x
      go_wp2
      try simp only [Exit.noGoto]
      go_end0
      exact ⟨rfl, true, _, HFIN.out _, .inr ⟨rfl, HVN.out⟩, upd_end HU1.out _ _⟩
     | false =>
      obtain ⟨q, hq, hgo⟩ := HL.out.go rfl
      subst hq
      have HGO : Hid (vArcs (vis8 m f) s.arcs next = if (q : Int) ≤ x.to then (vis8 m f x.to.toNat q).bind (vArcs (vis8 m f) (s.arcs.drop (k + 1))) else vArcs (vis8 m f) (s.arcs.drop (k + 1)) q) := hgo.trans (vArcs_at hx)
      rw [ht, Int.toNat_natCast] at HGO
      clear hx hn1 hb1 HN1 hgo
      go_upto_region 3 with fail
      rw [← hxb, ← hW1]
      clear hxb hW1 d0 d1 d2 f0 f1 f2 f3 f4 f5
      by_cases hqt : q ≤ t
      · have hqz : (q : Int) ≤ (t : Int) := by omega
        rw [if_pos hqz] at HGO
        have HCL : Hid (Calls Tryz.prog 95 #[.int .i64 t, .pointer (some ⟨sb, 0, none⟩), .pointer (some ⟨ab, 0, none⟩), .pointer (some ⟨nb, 0, none⟩), .pointer (some ⟨vb, 0, none⟩)] W1 fun e w' => e = .returned (.tuple #[]) ∧ ∃ am nx, NumAt w' sb ab nb vb (.slice (some ⟨g, off, none⟩) ml cap) am nx ∧ VisSays m f t q am nx ∧ Upd (fun j => j = ab ∨ j = nb) W1 w') := by
         have := HIH.out t q W1 (by omega) (by have := HML.out; omega) (by omega) (by rw [HML.out]; exact HS.out.below HBE1.out) HE1.out (by rw [HML.out]; exact HNN.out)
         rw [HML.out] at this
         exact this
        go_wp2_with (go_at_call 95; refine HCL.out.mono ?_; rintro e w2 ⟨rfl, am2, nx2, hn2, hv2, hu2⟩; have HN2 : Hid _ := hn2; have HV2 : Hid _ := hv2; have HU2 : Hid _ := hu2; clear hn2 hv2 hu2)
        have HNX : Hid (VLoop E w w2 sb ab nb vb (.slice (some ⟨g, off, none⟩) ml cap) m (vis8 m f) s.arcs next (k + 1) am2 nx2) := by
         refine ⟨HN2.out, HU1.out.trans HU2.out (fun _ _ h => h), fun ha => ?_, fun ha => ?_⟩
         · rcases HV2.out with ⟨_, j, hj, hv⟩ | ⟨h1, _⟩
           · exact ⟨j, hj, by rw [HGO, hv]; rfl⟩
           · rw [h1] at ha; cases ha
         · rcases HV2.out with ⟨h1, _⟩ | ⟨_, hv⟩
           · rw [h1] at ha; cases ha
           · rw [HGO, hv]; rfl
        go_roundg (na - (k + 1))
        case measure => omega
        case rel => exact ⟨k + 1, _, _, by go_num, by omega, Nat.le_refl _, HNX⟩
      · have hqz : ¬ (q : Int) ≤ (t : Int) := by omega
        rw [if_neg hqz] at HGO
        have HNX : Hid (VLoop E w W1 sb ab nb vb (.slice (some ⟨g, off, none⟩) ml cap) m (vis8 m f) s.arcs next (k + 1) false q) := ⟨HNN.out, HU1.out, fun _ => ⟨q, rfl, HGO⟩, fun h => by cases h⟩
        go_wp2
        go_roundg (na - (k + 1))
        case measure => omega
        case rel => exact ⟨k + 1, _, _, by go_num, by omega, Nat.le_refl _, HNX⟩
   · have hltz : ¬ (k : Int) < (na : Int) := by omega
     have HU1 : Hid (Upd (fun j => j = ab ∨ j = nb) w wr) := HL.out.upd
     have k2 := fun A => ((HL.out.num.setA hap A).facts).2.2.1
     have k5 := fun A => ((HL.out.num.setA hap A).facts).2.2.2.2.2
     have HFIN : Hid (∀ A x, NumAt ((wr.setCell ⟨ab, 0, none⟩ (.bool A)).setCell ⟨nb, 0, none⟩ (.int .i64 x)) sb ab nb vb (.slice (some ⟨g, off, none⟩) ml cap) A x) := fun A x => (HL.out.num.setA hap A).setN hap x
     cases am with
     | true =>
      have HVN : Hid (vis8 m (f + 1) n next = none) := by show _ = _; rw [HV8.out, HL.out.no rfl]; rfl
      go_wp2
      try simp only [Exit.noGoto]
      go_end0
      exact ⟨rfl, true, _, HFIN.out _ _, .inr ⟨rfl, HVN.out⟩, upd_end HU1.out _ _⟩
     | false =>
      obtain ⟨q, hq, hgo⟩ := HL.out.go rfl
      subst hq
      rw [List.drop_of_length_le (by have := HNA.out; omega), vArcs] at hgo
      by_cases hnq : n = q
      · subst hnq
        have HVN : Hid (vis8 m (f + 1) n next = some (n + 1)) := by show _ = _; rw [HV8.out, hgo]; simp
        clear hgo
        go_wp2
        try simp only [Exit.noGoto]
        go_end0
        exact ⟨rfl, false, _, HFIN.out _ _, .inl ⟨rfl, n + 1, by go_num, HVN.out⟩, upd_end HU1.out _ _⟩
      · have HVN : Hid (vis8 m (f + 1) n next = none) := by show _ = _; rw [HV8.out, hgo]; simp [hnq]
        have h1b : ((n : Int) == (q : Int)) = false := beq_eq_false_iff_ne.2 (by omega)
        have h1n : ((n : Int) != (q : Int)) = true := by simp [bne, h1b]
        clear hgo
        go_wp2
        try simp only [Exit.noGoto]
        go_end0
        exact ⟨rfl, true, _, HFIN.out _ _, .inr ⟨rfl, HVN.out⟩, upd_end HU1.out _ _⟩
set_option maxHeartbeats 4000000 in
theorem numbered_any (E : Nat) (w : World) (m : List RSt) (vs : Value) (h : StsAt E w vs m) (hE : E ≤ w.heap.size) (hF : formB 0 m = true) (hm : m.length ≤ 1048576) (hm0 : m ≠ []) :
 Calls Tryz.prog 74 #[vs] w fun e w' => e = .returned (.bool (numB m)) ∧ Below w.heap.size w w' := by
 obtain ⟨ad, cap, rfl⟩ := h.shape
 have hpos := List.length_pos_iff.2 hm0
 obtain ⟨n, hn⟩ : ∃ n, m.length = n + 1 := ⟨m.length - 1, by omega⟩
 have HN : Hid (m.length = n + 1) := hn
 have HR : Hid (StsAt E w (.slice ad m.length cap) m) := h
 obtain ⟨sb, hsb⟩ : ∃ sb, sb = w.heap.size := ⟨_, rfl⟩
 obtain ⟨nb, hnb⟩ : ∃ nb, nb = w.heap.size + 1 := ⟨_, rfl⟩
 obtain ⟨ab, hab⟩ : ∃ ab, ab = w.heap.size + 1 + 1 := ⟨_, rfl⟩
 obtain ⟨vb, hvb⟩ : ∃ vb, vb = w.heap.size + 1 + 1 + 1 := ⟨_, rfl⟩
 have hap : Boxes E sb ab nb vb := ⟨by omega, by omega, by omega, by omega, by omega, by omega, by omega⟩
 have HVS : Hid (∀ W, Below w.heap.size w W → NumAt W sb ab nb vb (.slice ad m.length cap) false 0 → Calls Tryz.prog 95 #[.int .i64 n, .pointer (some ⟨sb, 0, none⟩), .pointer (some ⟨ab, 0, none⟩), .pointer (some ⟨nb, 0, none⟩), .pointer (some ⟨vb, 0, none⟩)] W fun e w' => e = .returned (.tuple #[]) ∧ ∃ am nx, NumAt w' sb ab nb vb (.slice ad m.length cap) am nx ∧ VisSays m (m.length + 25) n 0 am nx ∧ Upd (fun j => j = ab ∨ j = nb) W w') := fun W hW hN =>
  visit_any E m ad cap sb ab nb vb hF hm hap (m.length + 25) n 0 W (by omega) (by omega) (by omega) (h.below (hW.mono hE)) (Nat.le_trans hE hW.size) hN
 have HNB : Hid (numB m = (vis8 m (m.length + 25) n 0).isSome) := by show _ = _; unfold numB; rw [show m.length - 1 = n by omega]
 have HAP : Hid (w.heap.size ≤ ab ∧ w.heap.size ≤ nb) := ⟨by omega, by omega⟩
 rw [hn] at HVS HR hm ⊢
 clear h hn
 go_enter Tryz.func74, Tryz.ntmps74
 obtain ⟨W0, hW0⟩ : ∃ W0, W0 = (((w.alloc (.cells #[.slice ad (n + 1) cap] 61)).alloc (.cells #[.int .i64 0] 3)).alloc (.cells #[.bool false] 4)).alloc (.cells #[Value.nilFunc] 157) := ⟨_, rfl⟩
 have hs0 : W0.heap[sb]? = some (.cells #[.slice ad (n + 1) cap] 61) := by
  rw [hW0, (MapKept.heap_alloc _ _).2 sb (by rw [hsb]; simp; omega), (MapKept.heap_alloc _ _).2 sb (by rw [hsb]; simp; omega), (MapKept.heap_alloc _ _).2 sb (by rw [hsb]; simp), hsb]
  exact alloc_newP _ _
 have hn0 : W0.heap[nb]? = some (.cells #[.int .i64 0] 3) := by
  have e : (w.alloc (.cells #[.slice ad (n + 1) cap] 61)).heap.size = nb := by rw [hnb]; simp
  rw [hW0, (MapKept.heap_alloc _ _).2 nb (by rw [hnb]; simp), (MapKept.heap_alloc _ _).2 nb (by rw [hnb]; simp), ← e]
  exact alloc_newP _ _
 have ha0 : W0.heap[ab]? = some (.cells #[.bool false] 4) := by
  have e : ((w.alloc (.cells #[.slice ad (n + 1) cap] 61)).alloc (.cells #[.int .i64 0] 3)).heap.size = ab := by rw [hab]; simp
  rw [hW0, (MapKept.heap_alloc _ _).2 ab (by rw [hab]; simp), ← e]
  exact alloc_newP _ _
 have hv0 : W0.heap[vb]? = some (.cells #[Value.nilFunc] 157) := by
  have e : (((w.alloc (.cells #[.slice ad (n + 1) cap] 61)).alloc (.cells #[.int .i64 0] 3)).alloc (.cells #[.bool false] 4)).heap.size = vb := by rw [hvb]; simp
  rw [hW0, ← e]
  exact alloc_newP _ _
 have hb0 : Below w.heap.size w W0 := by
  rw [hW0]
  exact ((((Below.refl _ w).alloc (Nat.le_refl _) _).alloc (by simp) _).alloc (by simp; omega) _).alloc (by simp; omega) _
 have z0 : W0.cell? ⟨vb, 0, none⟩ = some Value.nilFunc := by simp [World.cell?, hv0]
 have z1 : ∀ o, W0.frozen? ⟨vb, o, none⟩ = false := fun o => by simp [World.frozen?, hv0]
 obtain ⟨W1, hW1⟩ : ∃ W1, W1 = W0.setCell ⟨vb, 0, none⟩ (visitF sb ab nb vb) := ⟨_, rfl⟩
 have hN1 : NumAt W1 sb ab nb vb (.slice ad (n + 1) cap) false 0 := by
  rw [hW1]
  exact ⟨(set_other _ _ _ _ (by omega)).trans hs0, (set_other _ _ _ _ (by omega)).trans ha0, (set_other _ _ _ _ (by omega)).trans hn0, by rw [set_at hv0]; rfl⟩
 have HB1 : Hid (Below w.heap.size w W1) := by show Below _ _ _; rw [hW1]; exact hb0.setCell (p := ⟨vb, 0, none⟩) (by simp only; omega) _
 have HC : Hid (Calls Tryz.prog 95 #[.int .i64 n, .pointer (some ⟨sb, 0, none⟩), .pointer (some ⟨ab, 0, none⟩), .pointer (some ⟨nb, 0, none⟩), .pointer (some ⟨vb, 0, none⟩)] W1 fun e w' => e = .returned (.tuple #[]) ∧ ∃ am nx, NumAt w' sb ab nb vb (.slice ad (n + 1) cap) am nx ∧ VisSays m (n + 1 + 25) n 0 am nx ∧ Upd (fun j => j = ab ∨ j = nb) W1 w') := HVS.out W1 HB1.out hN1
 have hW1' : W1 = W0.setCell ⟨vb, 0, none⟩ (.func (.func 95) #[] #[.pointer (some ⟨sb, 0, none⟩), .pointer (some ⟨ab, 0, none⟩), .pointer (some ⟨nb, 0, none⟩), .pointer (some ⟨vb, 0, none⟩)]) := hW1
 obtain ⟨g0, g1, g2, g3, g4, g5⟩ := hN1.facts
 unfold visitF at g3
 have hwrp : IntKind.i64.wrap (((n + 1 : Nat) : Int) - 1) = (n : Int) := by rw [IntKind.wrap_i64]; omega
 clear hs0 hn0 ha0 hv0 hb0 hN1 hW1 hap
 go_upto_region 3 with fail
 rw [← hvb, ← hab, ← hnb, ← hsb, ← hW0]
 clear hW0 hsb hab hnb hvb
 go_upto_region 4 with fail
 rw [← hW1']
 clear hW1' z0 z1
 go_upto_region 5 with (go_at_call 95; refine HC.out.mono ?_; rintro e w2 ⟨rfl, am, nx, hn2, hv2, hu2⟩)
 obtain ⟨g0', g1', g2', g3', g4', g5'⟩ := hn2.facts
 have hbel : Below w.heap.size w w2 := HB1.out.trans (hu2.below HB1.out.size (fun j hj => hj.elim (fun e => e ▸ HAP.out.1) (fun e => e ▸ HAP.out.2)))
 have HAM : Hid (numB m = !am) := by
  show _ = _
  rw [HNB.out, HN.out]
  rcases hv2 with ⟨rfl, k, _, h2⟩ | ⟨rfl, h2⟩
  · rw [h2]; rfl
  · rw [h2]; rfl
 clear hn2 hv2 hu2
 go_wp2
 go_ret
 exact ⟨by rw [HAM.out]; rfl, hbel⟩
end Go.Proofs.YtncnefpkfbngaaaGreatDoor

/- Right. -/
namespace Go.Proofs.YtncnefpkfbngaaaGreatDoor
open Go.RowKit Nums Fm Pk
set_option maxRecDepth 100000

set_option maxHeartbeats 4000000 in
theorem Right_any (E : Nat) (w : World) (base : Int) (m : List RSt) (vs : Value) (h : StsAt E w vs m) (hE : E ≤ w.heap.size) (hT : Tabs w) (hm : m.length ≤ 1048576) :
 Calls Tryz.prog 45 #[.agg #[.int .i64 base, vs]] w fun e w' => e = .returned (.bool (rightB base m)) ∧ Below w.heap.size w w' := by
 obtain ⟨ad, cap, rfl⟩ := h.shape
 have HB0 : Hid (∀ o, Below w.heap.size w (w.alloc o)) := fun o => (Below.refl _ w).alloc (Nat.le_refl _) o
 by_cases h0 : m = []
 · have HR : Hid (rightB base m = decide (base = 0)) := by show _ = _; rw [rightB, if_pos h0]
   have hl : m.length = 0 := by rw [h0]; rfl
   rw [hl]
   clear h hT hl h0
   go_enter Tryz.func45, Tryz.ntmps45
   by_cases hb : base = 0
   · subst hb
     go_wp2
     go_ret
     exact ⟨by rw [HR.out]; rfl, HB0.out _⟩
   · have h1b : (base == 0) = false := beq_eq_false_iff_ne.2 hb
     go_wp2
     go_ret
     exact ⟨by rw [HR.out, decide_eq_false hb]; rfl, HB0.out _⟩
 have hpos := List.length_pos_iff.2 h0
 obtain ⟨n, hn⟩ : ∃ n, m.length = n + 1 := ⟨m.length - 1, by omega⟩
 have HN : Hid (m.length = n + 1) := hn
 obtain ⟨rt, hrt⟩ : ∃ rt, m[n]? = some rt := ⟨m[n]'(by omega), List.getElem?_eq_getElem _⟩
 have HRR : Hid (rightB base m = (decide (1 ≤ base ∧ base ≤ 1048576) && !rt.final && formB 0 m && bndB base [] m && numB m && decide m.Nodup)) := by
  show _ = _
  rw [rightB, if_neg h0, show m.length - 1 = n by omega, List.getD_eq_getElem?_getD, hrt]
  rfl
 have hn0 : (((n : Int) + 1) == 0) = false := beq_eq_false_iff_ne.2 (by omega)
 rw [hn] at h ⊢
 obtain ⟨g, off, va, rfl, hg, c0, c1, c2, hA⟩ := h.at hrt
 obtain ⟨vd, vc, hva⟩ := hA.shape
 obtain ⟨na, hna⟩ : ∃ na, rt.arcs.length = na := ⟨_, rfl⟩
 rw [hna] at hva
 subst hva
 have HS : Hid (StsAt E w (.slice (some ⟨g, off, none⟩) (n + 1) cap) m) := h
 by_cases hb1 : base < 1
 · have HF : Hid (rightB base m = false) := by show _ = _; rw [HRR.out, decide_eq_false (by omega)]; rfl
   clear h hT HRR hrt
   go_enter Tryz.func45, Tryz.ntmps45
   go_wp2
   go_ret
   exact ⟨by rw [HF.out]; rfl, HB0.out _⟩
 by_cases hb2 : 1048576 < base
 · have HF : Hid (rightB base m = false) := by show _ = _; rw [HRR.out, decide_eq_false (by omega)]; rfl
   clear h hT HRR hrt
   go_enter Tryz.func45, Tryz.ntmps45
   go_wp2
   go_ret
   exact ⟨by rw [HF.out]; rfl, HB0.out _⟩
 obtain ⟨mb, hmb⟩ : ∃ mb, mb = w.heap.size := ⟨_, rfl⟩
 obtain ⟨rb, hrb⟩ : ∃ rb, rb = w.heap.size + 1 := ⟨_, rfl⟩
 obtain ⟨W2, hW2⟩ : ∃ W2, W2 = (w.alloc (.cells #[.int .i64 base, .slice (some ⟨g, off, none⟩) (n + 1) cap] 63)).alloc (.cells #[.bool rt.final, .int .i64 rt.out, .slice vd na vc] 88) := ⟨_, rfl⟩
 have hbw : Below w.heap.size w W2 := by rw [hW2]; exact ((Below.refl _ w).alloc (Nat.le_refl _) _).alloc (by simp) _
 have hm2 : W2.heap[mb]? = some (.cells #[.int .i64 base, .slice (some ⟨g, off, none⟩) (n + 1) cap] 63) := by
  rw [hW2, (MapKept.heap_alloc _ _).2 mb (by rw [hmb]; simp), hmb]
  exact alloc_newP _ _
 have hr2 : W2.heap[rb]? = some (.cells #[.bool rt.final, .int .i64 rt.out, .slice vd na vc] 88) := by
  have e : (w.alloc (.cells #[.int .i64 base, .slice (some ⟨g, off, none⟩) (n + 1) cap] 63)).heap.size = rb := by rw [hrb]; simp
  rw [hW2, ← e]
  exact alloc_newP _ _
 have HBW : Hid (Below w.heap.size w W2) := hbw
 have HCL : Hid (∀ W, Below W2.heap.size W2 W → W.cell? ⟨mb, 0, none⟩ = some (.int .i64 base) ∧ W.cell? ⟨mb, 1, none⟩ = some (.slice (some ⟨g, off, none⟩) (n + 1) cap)) := fun W hW => by
  have h1 : W.heap[mb]? = W2.heap[mb]? := hW.block mb (Array.getElem?_eq_some_iff.1 hm2).1
  exact ⟨by simp [World.cell?, h1, hm2], by simp [World.cell?, h1, hm2]⟩
 have r0 : W2.cell? ⟨rb, 0, none⟩ = some (.bool rt.final) := by simp [World.cell?, hr2]
 obtain ⟨m0, m1⟩ := HCL.out W2 (Below.refl _ _)
 have hSW : ∀ W, Below W2.heap.size W2 W → StsAt E W (.slice (some ⟨g, off, none⟩) (n + 1) cap) m ∧ E ≤ W.heap.size ∧ Tabs W := fun W hW => by
  have hb := hbw.trans (hW.mono hbw.size)
  exact ⟨h.below (hb.mono hE), Nat.le_trans hE hb.size, hT.below hb⟩
 have HFO : Hid (∀ W, Below W2.heap.size W2 W → Calls Tryz.prog 72 #[.slice (some ⟨g, off, none⟩) (n + 1) cap] W fun e w' => e = .returned (.bool (formB 0 m)) ∧ Below W2.heap.size W2 w') := fun W hW => by
  obtain ⟨s1, s2, s3⟩ := hSW W hW
  refine (formed_any E W m _ s1 s2 s3).mono ?_
  rintro e w' ⟨rfl, h2⟩
  exact ⟨rfl, hW.trans (h2.mono hW.size)⟩
 have HBO : Hid (formB 0 m = true → ∀ W, Below W2.heap.size W2 W → Calls Tryz.prog 73 #[.agg #[.int .i64 base, .slice (some ⟨g, off, none⟩) (n + 1) cap]] W fun e w' => e = .returned (.bool (bndB base [] m)) ∧ Below W2.heap.size W2 w') := fun hf W hW => by
  obtain ⟨s1, s2, s3⟩ := hSW W hW
  refine (bounded_any E W base m _ s1 s2 (by omega) (by omega) hf hm).mono ?_
  rintro e w' ⟨rfl, h2⟩
  exact ⟨rfl, hW.trans (h2.mono hW.size)⟩
 have HNO : Hid (formB 0 m = true → ∀ W, Below W2.heap.size W2 W → Calls Tryz.prog 74 #[.slice (some ⟨g, off, none⟩) (n + 1) cap] W fun e w' => e = .returned (.bool (numB m)) ∧ Below W2.heap.size W2 w') := fun hf W hW => by
  obtain ⟨s1, s2, s3⟩ := hSW W hW
  refine (numbered_any E W m _ s1 s2 hf hm h0).mono ?_
  rintro e w' ⟨rfl, h2⟩
  exact ⟨rfl, hW.trans (h2.mono hW.size)⟩
 have HUO : Hid (formB 0 m = true → ∀ W, Below W2.heap.size W2 W → Calls Tryz.prog 75 #[.slice (some ⟨g, off, none⟩) (n + 1) cap] W fun e w' => e = .returned (.bool (decide m.Nodup)) ∧ Below W2.heap.size W2 w') := fun hf W hW => by
  obtain ⟨s1, s2, s3⟩ := hSW W hW
  refine (unlike_any E W m _ s1 s2 hf hm h0).mono ?_
  rintro e w' ⟨rfl, h2⟩
  exact ⟨rfl, hW.trans (h2.mono hW.size)⟩
 have HRF : Hid (rightB base m = (!rt.final && formB 0 m && bndB base [] m && numB m && decide m.Nodup)) := by show _ = _; rw [HRR.out, decide_eq_true (by omega)]; simp
 have hwrp : IntKind.i64.wrap (((n : Int) + 1) - 1) = (n : Int) := by rw [IntKind.wrap_i64]; omega
 have hnz : (n : Int) < (n : Int) + 1 := by omega
 have cA : ∀ (o : Obj) (j : Nat), (w.alloc o).cell? ⟨g, j, none⟩ = w.cell? ⟨g, j, none⟩ := fun o j => ((Below.refl _ w).alloc (Nat.le_refl _) o).cell (p := ⟨g, j, none⟩) (Nat.lt_of_lt_of_le hg hE)
 have c0' := fun o => (cA o _).trans c0
 have c1' := fun o => (cA o _).trans c1
 have c2' := fun o => (cA o _).trans c2
 clear h hT HRR hrt hbw hm2 hr2 hSW c0 c1 c2 cA hA
 go_enter Tryz.func45, Tryz.ntmps45
 go_upto_region 6 with fail
 rw [← hrb, ← hmb, ← hW2]
 clear hrb hmb hW2 c0' c1' c2'
 generalize formB 0 m = F at *
 generalize bndB base [] m = B at *
 generalize numB m = N at *
 generalize decide m.Nodup = U at *
 generalize rt.final = fn at *
 cases fn with
 | true =>
  have HX : Hid (rightB base m = false) := HRF.out
  go_wp2
  go_ret
  exact ⟨by rw [HX.out]; rfl, HBW.out⟩
 | false =>
 cases F with
 | false =>
  have HX : Hid (rightB base m = false) := HRF.out
  go_wp2_with (first
   | (go_at_call 72; refine (HFO.out _ (Below.refl _ _)).mono ?_; rintro e wa ⟨rfl, hba⟩; have HBa : Hid (Below W2.heap.size W2 wa) := hba; clear hba; obtain ⟨p0, p1⟩ := HCL.out wa HBa.out)
   | (go_at_call 73; refine (HBO.out (by simp) _ HBa.out).mono ?_; rintro e wb ⟨rfl, hbb⟩; have HBb : Hid (Below W2.heap.size W2 wb) := hbb; clear hbb; obtain ⟨p2, p3⟩ := HCL.out wb HBb.out)
   | (go_at_call 74; refine (HNO.out (by simp) _ HBb.out).mono ?_; rintro e wc ⟨rfl, hbc⟩; have HBc : Hid (Below W2.heap.size W2 wc) := hbc; clear hbc; obtain ⟨p4, p5⟩ := HCL.out wc HBc.out)
   | (go_at_call 75; refine (HUO.out (by simp) _ HBc.out).mono ?_; rintro e wd ⟨rfl, hbd⟩; have HBd : Hid (Below W2.heap.size W2 wd) := hbd; clear hbd))
  go_ret
  exact ⟨by rw [HX.out]; rfl, HBW.out.trans (HBa.out.mono HBW.out.size)⟩
 | true =>
 cases B with
 | false =>
  have HX : Hid (rightB base m = false) := HRF.out
  go_wp2_with (first
   | (go_at_call 72; refine (HFO.out _ (Below.refl _ _)).mono ?_; rintro e wa ⟨rfl, hba⟩; have HBa : Hid (Below W2.heap.size W2 wa) := hba; clear hba; obtain ⟨p0, p1⟩ := HCL.out wa HBa.out)
   | (go_at_call 73; refine (HBO.out (by simp) _ HBa.out).mono ?_; rintro e wb ⟨rfl, hbb⟩; have HBb : Hid (Below W2.heap.size W2 wb) := hbb; clear hbb; obtain ⟨p2, p3⟩ := HCL.out wb HBb.out)
   | (go_at_call 74; refine (HNO.out (by simp) _ HBb.out).mono ?_; rintro e wc ⟨rfl, hbc⟩; have HBc : Hid (Below W2.heap.size W2 wc) := hbc; clear hbc; obtain ⟨p4, p5⟩ := HCL.out wc HBc.out)
   | (go_at_call 75; refine (HUO.out (by simp) _ HBc.out).mono ?_; rintro e wd ⟨rfl, hbd⟩; have HBd : Hid (Below W2.heap.size W2 wd) := hbd; clear hbd))
  go_ret
  exact ⟨by rw [HX.out]; rfl, HBW.out.trans (HBb.out.mono HBW.out.size)⟩
 | true =>
 cases N with
 | false =>
  have HX : Hid (rightB base m = false) := HRF.out
  go_wp2_with (first
   | (go_at_call 72; refine (HFO.out _ (Below.refl _ _)).mono ?_; rintro e wa ⟨rfl, hba⟩; have HBa : Hid (Below W2.heap.size W2 wa) := hba; clear hba; obtain ⟨p0, p1⟩ := HCL.out wa HBa.out)
   | (go_at_call 73; refine (HBO.out (by simp) _ HBa.out).mono ?_; rintro e wb ⟨rfl, hbb⟩; have HBb : Hid (Below W2.heap.size W2 wb) := hbb; clear hbb; obtain ⟨p2, p3⟩ := HCL.out wb HBb.out)
   | (go_at_call 74; refine (HNO.out (by simp) _ HBb.out).mono ?_; rintro e wc ⟨rfl, hbc⟩; have HBc : Hid (Below W2.heap.size W2 wc) := hbc; clear hbc; obtain ⟨p4, p5⟩ := HCL.out wc HBc.out)
   | (go_at_call 75; refine (HUO.out (by simp) _ HBc.out).mono ?_; rintro e wd ⟨rfl, hbd⟩; have HBd : Hid (Below W2.heap.size W2 wd) := hbd; clear hbd))
  go_ret
  exact ⟨by rw [HX.out]; rfl, HBW.out.trans (HBc.out.mono HBW.out.size)⟩
 | true =>
  have HX : Hid (rightB base m = U) := HRF.out
  cases U with
  | false =>
   go_wp2_with (first
    | (go_at_call 72; refine (HFO.out _ (Below.refl _ _)).mono ?_; rintro e wa ⟨rfl, hba⟩; have HBa : Hid (Below W2.heap.size W2 wa) := hba; clear hba; obtain ⟨p0, p1⟩ := HCL.out wa HBa.out)
    | (go_at_call 73; refine (HBO.out (by simp) _ HBa.out).mono ?_; rintro e wb ⟨rfl, hbb⟩; have HBb : Hid (Below W2.heap.size W2 wb) := hbb; clear hbb; obtain ⟨p2, p3⟩ := HCL.out wb HBb.out)
    | (go_at_call 74; refine (HNO.out (by simp) _ HBb.out).mono ?_; rintro e wc ⟨rfl, hbc⟩; have HBc : Hid (Below W2.heap.size W2 wc) := hbc; clear hbc; obtain ⟨p4, p5⟩ := HCL.out wc HBc.out)
    | (go_at_call 75; refine (HUO.out (by simp) _ HBc.out).mono ?_; rintro e wd ⟨rfl, hbd⟩; have HBd : Hid (Below W2.heap.size W2 wd) := hbd; clear hbd))
   go_ret
   exact ⟨by rw [HX.out]; rfl, HBW.out.trans (HBd.out.mono HBW.out.size)⟩
  | true =>
   go_wp2_with (first
    | (go_at_call 72; refine (HFO.out _ (Below.refl _ _)).mono ?_; rintro e wa ⟨rfl, hba⟩; have HBa : Hid (Below W2.heap.size W2 wa) := hba; clear hba; obtain ⟨p0, p1⟩ := HCL.out wa HBa.out)
    | (go_at_call 73; refine (HBO.out (by simp) _ HBa.out).mono ?_; rintro e wb ⟨rfl, hbb⟩; have HBb : Hid (Below W2.heap.size W2 wb) := hbb; clear hbb; obtain ⟨p2, p3⟩ := HCL.out wb HBb.out)
    | (go_at_call 74; refine (HNO.out (by simp) _ HBb.out).mono ?_; rintro e wc ⟨rfl, hbc⟩; have HBc : Hid (Below W2.heap.size W2 wc) := hbc; clear hbc; obtain ⟨p4, p5⟩ := HCL.out wc HBc.out)
    | (go_at_call 75; refine (HUO.out (by simp) _ HBc.out).mono ?_; rintro e wd ⟨rfl, hbd⟩; have HBd : Hid (Below W2.heap.size W2 wd) := hbd; clear hbd))
   go_ret
   exact ⟨by rw [HX.out]; rfl, HBW.out.trans (HBd.out.mono HBW.out.size)⟩
end Go.Proofs.YtncnefpkfbngaaaGreatDoor
