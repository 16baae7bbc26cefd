/- Texts that were written apart, joined. -/
import Derived.Test.YtncnefpkfbngaaaGreatDoorWkC
import Derived.Test.YtncnefpkfbngaaaGreatDoorG4
import Derived.Test.YtncnefpkfbngaaaGreatDoorG2
import Derived.Test.YtncnefpkfbngaaaGreatDoorWkB
import Derived.Test.YtncnefpkfbngaaaGreatDoorJ6
import Derived.TacticsInMore
import Derived.OwnWalkIn
/- New: a walk on a machine's copy. -/
namespace Go.Proofs.YtncnefpkfbngaaaGreatDoor
open Go.RowKit Nums Fm Pk
set_option maxRecDepth 100000

/-- States that the call has made, so far. -/
structure NwAt (w wr : World) (ob : Nat) (base : Int) (vs : Value) (m : List RSt) : Prop where
 bel : Below w.heap.size w wr
 lo : w.heap.size ≤ ob
 blk : wr.heap[ob]? = some (.cells #[.int .i64 base, vs] 63)
 ap : vs.ownBlock ≠ some ob
 ex : ∃ xss, GOwn 88 3 w.heap.size wr vs xss ∧ xss.length = m.length ∧ ∀ (i : Nat) (s : RSt), m[i]? = some s → ∃ va, xss[i]? = some [.bool s.final, .int .i64 s.out, va] ∧ ArcsAt wr.heap.size wr va s.arcs ∧ ∀ g, va.ownBlock = some g → w.heap.size ≤ g ∧ g ≠ ob ∧ vs.ownBlock ≠ some g ∧ g < wr.heap.size
theorem ArcsAt.grow {E : Nat} {w w' : World} {v : Value} {l : List RArc} (h : ArcsAt E w v l) (hE : E ≤ w.heap.size) (hb : Below w.heap.size w w') : ArcsAt w'.heap.size w' v l := h.upd (F := fun _ => False) (Upd.of_below hb) hE (fun _ _ => id)
theorem NwAt.below {w wr w' : World} {ob : Nat} {base : Int} {vs : Value} {m : List RSt} (h : NwAt w wr ob base vs m) (hb : Below wr.heap.size wr w') : NwAt w w' ob base vs m := by
 obtain ⟨xss, h1, h2, h3⟩ := h.ex
 refine ⟨h.bel.trans (hb.mono h.bel.size), h.lo, (hb.block ob (Array.getElem?_eq_some_iff.1 h.blk).1).trans h.blk, h.ap, xss, h1.below hb, h2, fun i s hi => ?_⟩
 obtain ⟨va, e1, e2, e3⟩ := h3 i s hi
 exact ⟨va, e1, e2.grow (Nat.le_refl _) hb, fun g hg => by obtain ⟨k1, k2, k3, k4⟩ := e3 g hg; exact ⟨k1, k2, k3, Nat.lt_of_lt_of_le k4 hb.size⟩⟩
theorem NwAt.facts {w wr : World} {ob : Nat} {base : Int} {vs : Value} {m : List RSt} (h : NwAt w wr ob base vs m) : wr.cell? ⟨ob, 0, none⟩ = some (.int .i64 base) ∧ wr.cell? ⟨ob, 1, none⟩ = some vs ∧ ∀ o, wr.frozen? ⟨ob, o, none⟩ = false := ⟨by simp [World.cell?, h.blk], by simp [World.cell?, h.blk], fun o => by simp [World.frozen?, h.blk]⟩
/-- One state more. -/
theorem NwAt.more {w V3 V4 W' : World} {ob : Nat} {base : Int} {vs v' va : Value} {m : List RSt} {s : RSt} {xss : List (List Value)} (h : NwAt w V3 ob base vs m) (hX : GOwn 88 3 w.heap.size V3 vs xss) (hxl : xss.length = m.length) (hxe : ∀ (i : Nat) (s : RSt), m[i]? = some s → ∃ va, xss[i]? = some [.bool s.final, .int .i64 s.out, va] ∧ ArcsAt V3.heap.size V3 va s.arcs ∧ ∀ g, va.ownBlock = some g → w.heap.size ≤ g ∧ g ≠ ob ∧ vs.ownBlock ≠ some g ∧ g < V3.heap.size)
 (hva : ArcsAt V3.heap.size V3 va s.arcs) (hvn : ∀ g, va.ownBlock = some g → w.heap.size ≤ g ∧ g ≠ ob ∧ vs.ownBlock ≠ some g ∧ g < V3.heap.size) (hb4 : Below V3.heap.size V3 V4) (ho : GOwn 88 3 w.heap.size W' v' (xss ++ [[.bool s.final, .int .i64 s.out, va]])) (hg : V4.grownBy W' vs.ownBlock) (hob : v'.ownBlock = vs.ownBlock ∨ ∃ g, v'.ownBlock = some g ∧ V4.heap.size ≤ g) :
 NwAt w (W'.setCell ⟨ob, 1, none⟩ v') ob base v' (m ++ [s]) ∧ W'.cell? ⟨ob, 1, none⟩ = some vs ∧ W'.frozen? ⟨ob, 1, none⟩ = false := by
 have hol : ob < V3.heap.size := (Array.getElem?_eq_some_iff.1 h.blk).1
 have hu1 : Upd (fun j => vs.ownBlock = some j) V3 W' := (Upd.of_below hb4).trans (G := fun j => vs.ownBlock = some j) ⟨hg.os, hg.tape, hg.output, hg.size, fun j hj hn => hg.block j hj (fun e => hn e.symm)⟩ (fun _ _ g => g)
 have hblk : W'.heap[ob]? = some (.cells #[.int .i64 base, vs] 63) := (hu1.block ob hol h.ap).trans h.blk
 obtain ⟨s1, s2, s3, s4⟩ := set_rest W' ob 1 v'
 have hu2 : Upd (fun j => j = ob) W' (W'.setCell ⟨ob, 1, none⟩ v') := ⟨s1, s2, s3, by omega, fun k _ hk => Below.heap_setCell W' ⟨ob, 1, none⟩ v' k hk⟩
 have hu : Upd (fun j => vs.ownBlock = some j ∨ j = ob) V3 (W'.setCell ⟨ob, 1, none⟩ v') := (hu1.mono fun j e => .inl e).trans (hu2.mono fun j e => .inr e) (fun _ _ g => g)
 have hap : v'.ownBlock ≠ some ob := fun e => by
  rcases hob with e2 | ⟨g, e2, h2⟩
  · exact h.ap (e2 ▸ e)
  · rw [e2] at e; cases e; have := hb4.size; omega
 have hfar : ∀ g, g < V3.heap.size → vs.ownBlock ≠ some g → v'.ownBlock ≠ some g := fun g hgl hn e => by
  rcases hob with e2 | ⟨g2, e2, h2⟩
  · exact hn (e2 ▸ e)
  · rw [e2] at e; cases e; have := hb4.size; omega
 refine ⟨⟨h.bel.trans (hu.below h.bel.size fun j e => ?_), h.lo, by rw [set_at hblk]; rfl, hap, xss ++ [[.bool s.final, .int .i64 s.out, va]], ho.same fun g hg' => hu2.block g (ho.lt hg') (fun e => hap (e ▸ hg')), by simp [hxl], fun i t hi => ?_⟩, by simp [World.cell?, hblk], by simp [World.frozen?, hblk]⟩
 · rcases e with e | e
   · exact (hX.block e).1
   · have := h.lo; omega
 · by_cases hi2 : i < m.length
   · rw [List.getElem?_append_left hi2] at hi
     obtain ⟨vb, e1, e2, e3⟩ := hxe i t hi
     refine ⟨vb, by rw [List.getElem?_append_left (by omega)]; exact e1, e2.upd hu (Nat.le_refl _) (fun g hg' e => ?_), fun g hg' => ?_⟩
     · rcases e with e | e
       · exact (e3 g hg').2.2.1 e
       · exact (e3 g hg').2.1 e
     · exact ⟨(e3 g hg').1, (e3 g hg').2.1, hfar g (e3 g hg').2.2.2 (e3 g hg').2.2.1, Nat.lt_of_lt_of_le (e3 g hg').2.2.2 hu.size⟩
   · have hi3 : i = m.length := by
      have := (List.getElem?_eq_some_iff.1 hi).1
      simp at this
      omega
     subst hi3
     rw [List.getElem?_append_right (Nat.le_refl _)] at hi
     simp at hi
     subst hi
     refine ⟨va, by rw [List.getElem?_append_right (by omega), hxl]; simp, hva.upd hu (Nat.le_refl _) (fun g hg' e => ?_), fun g hg' => ?_⟩
     · rcases e with e | e
       · exact (hvn g hg').2.2.1 e
       · exact (hvn g hg').2.1 e
     · exact ⟨(hvn g hg').1, (hvn g hg').2.1, hfar g (hvn g hg').2.2.2 (hvn g hg').2.2.1, Nat.lt_of_lt_of_le (hvn g hg').2.2.2 hu.size⟩
/-- What region 9 looks at. -/
structure S9n (ob : Nat) (base : Int) (vs : Value) (W : World) : Prop where
 c0 : W.cell? ⟨ob, 0, none⟩ = some (.int .i64 base)
 c1 : W.cell? ⟨ob, 1, none⟩ = some vs
theorem S9n.facts {ob : Nat} {base : Int} {vs : Value} {W : World} (h : S9n ob base vs W) : W.cell? ⟨ob, 0, none⟩ = some (.int .i64 base) ∧ W.cell? ⟨ob, 1, none⟩ = some vs := ⟨h.1, h.2⟩
theorem NwAt.sts {w wr : World} {ob : Nat} {base : Int} {vs : Value} {m : List RSt} (h : NwAt w wr ob base vs m) (hok : ∀ s ∈ m, Fits64 s.out) (hl : m.length ≤ 9223372036854775807) : StsAt wr.heap.size wr vs m := by
 obtain ⟨xss, h1, h2, h3⟩ := h.ex
 refine ⟨⟨xss, h1.reads, h2, fun i s hi => ?_⟩, hok, hl⟩
 obtain ⟨va, e1, e2, _⟩ := h3 i s hi
 exact ⟨va, e1, e2⟩
end Go.Proofs.YtncnefpkfbngaaaGreatDoor

/- New, where the machine is right. -/
namespace Go.Proofs.YtncnefpkfbngaaaGreatDoor
open Go.RowKit Nums Fm Pk
set_option maxRecDepth 100000

/-- What region 7 looks at. -/
structure S7n (ob sb : Nat) (vs : Value) (fn : Bool) (ot : Int) (va : Value) (W : World) : Prop where
 c1 : W.cell? ⟨ob, 1, none⟩ = some vs
 d0 : W.cell? ⟨sb, 0, none⟩ = some (.bool fn)
 d1 : W.cell? ⟨sb, 1, none⟩ = some (.int .i64 ot)
 d2 : W.cell? ⟨sb, 2, none⟩ = some va
theorem S7n.facts {ob sb : Nat} {vs : Value} {fn : Bool} {ot : Int} {va : Value} {W : World} (h : S7n ob sb vs fn ot va W) : W.cell? ⟨ob, 1, none⟩ = some vs ∧ W.cell? ⟨sb, 0, none⟩ = some (.bool fn) ∧ W.cell? ⟨sb, 1, none⟩ = some (.int .i64 ot) ∧ W.cell? ⟨sb, 2, none⟩ = some va := ⟨h.1, h.2, h.3, h.4⟩
theorem S7n.of {ob sb : Nat} {vs : Value} {fn : Bool} {ot : Int} {va : Value} {W W' : World} (h : S7n ob sb vs fn ot va W) (e1 : W'.heap[ob]? = W.heap[ob]?) (e2 : W'.heap[sb]? = W.heap[sb]?) : S7n ob sb vs fn ot va W' :=
 ⟨(World.cell?_of_block (a := ⟨ob, 1, none⟩) e1).trans h.1, (World.cell?_of_block (a := ⟨sb, 0, none⟩) e2).trans h.2, (World.cell?_of_block (a := ⟨sb, 1, none⟩) e2).trans h.3, (World.cell?_of_block (a := ⟨sb, 2, none⟩) e2).trans h.4⟩
set_option maxHeartbeats 4000000 in
theorem New_yes (E : Nat) (w : World) (base : Int) (b : List St) (D : List (List En)) (hI : Inv D b) (hF : ∀ R ∈ D, R.length ≤ 4096) (vs : Value) (h : StsAt E w vs (b.map ofSt)) (hE : E ≤ w.heap.size) (hT : Tabs w) (hm : b.length ≤ 1048576) (hr : rightB base (b.map ofSt) = true) (hsm : ∀ s ∈ b.map ofSt, s.arcs.length ≤ 1114112) :
 Calls Tryz.prog 27 #[.agg #[.int .i64 base, vs]] w fun e w' => ∃ wb, e = .returned (.tuple #[.pointer (some ⟨wb, 0, none⟩), .bool true]) ∧ w.heap.size ≤ wb ∧ WkAt w'.heap.size w' wb base (b.map ofSt) (D.map List.length) ∧ Below w.heap.size w w' := by
 obtain ⟨m, hmm⟩ : ∃ m, b.map ofSt = m := ⟨_, rfl⟩
 have HMM : Hid (b.map ofSt = m) := hmm
 rw [hmm] at h hr hsm ⊢
 have hml : m.length ≤ 1048576 := by rw [← hmm, List.length_map]; exact hm
 obtain ⟨ad, cap, rfl⟩ := h.shape
 obtain ⟨n, hn⟩ : ∃ n, m.length = n := ⟨_, rfl⟩
 have HN : Hid (m.length = n) := hn
 rw [hn] at h hml ⊢
 obtain ⟨W1, hW1⟩ : ∃ W1, W1 = w.alloc (.cells #[.int .i64 base, .slice ad n cap] 63) := ⟨_, rfl⟩
 have hb1 : Below w.heap.size w W1 := by rw [hW1]; exact (Below.refl _ w).alloc (Nat.le_refl _) _
 obtain ⟨mb, hmb⟩ : ∃ mb, mb = w.heap.size := ⟨_, rfl⟩
 have hn1 : W1.heap[mb]? = some (.cells #[.int .i64 base, .slice ad n cap] 63) := by rw [hW1, hmb]; exact alloc_newP _ _
 have HRA : Hid (Calls Tryz.prog 45 #[.agg #[.int .i64 base, .slice ad n cap]] W1 fun e w' => e = .returned (.bool true) ∧ Below W1.heap.size W1 w') := by
  have := Right_any E W1 base m _ (h.below (hb1.mono hE)) (Nat.le_trans hE hb1.size) (hT.below hb1) (by omega)
  rw [hr] at this
  exact this
 have HB1 : Hid (Below w.heap.size w W1) := hb1
 have HN1 : Hid (W1.heap[mb]? = some (.cells #[.int .i64 base, .slice ad n cap] 63)) := hn1
 have HH : Hid (StsAt E w (.slice ad n cap) m) := h
 have hOK := h.ok
 have c0 : W1.cell? ⟨mb, 0, none⟩ = some (.int .i64 base) := by simp [World.cell?, hn1]
 have c1 : W1.cell? ⟨mb, 1, none⟩ = some (.slice ad n cap) := by simp [World.cell?, hn1]
 clear h hT hb1 hn1 hn hmm hr
 go_enter Tryz.func27, Tryz.ntmps27
 go_upto_region 1 with fail
 rw [← hmb, ← hW1]
 have HMB : Hid (mb = w.heap.size) := hmb
 clear hW1 hmb
 go_upto_region 3 with (go_at_call 45; refine HRA.out.mono ?_; rintro e w2 ⟨rfl, hb2⟩)
 clear c0 c1
 have hk2 : w2.heap[mb]? = some (.cells #[.int .i64 base, .slice ad n cap] 63) := (hb2.block mb (Array.getElem?_eq_some_iff.1 HN1.out).1).trans HN1.out
 have c0 : w2.cell? ⟨mb, 0, none⟩ = some (.int .i64 base) := by simp [World.cell?, hk2]
 have c1 : w2.cell? ⟨mb, 1, none⟩ = some (.slice ad n cap) := by simp [World.cell?, hk2]
 have hmb2 := (Array.getElem?_eq_some_iff.1 hk2).1
 obtain ⟨ob, hob⟩ : ∃ ob, ob = w2.heap.size := ⟨_, rfl⟩
 obtain ⟨W3, hW3⟩ : ∃ W3, W3 = w2.alloc (.cells #[.int .i64 base, .slice none 0 0] 63) := ⟨_, rfl⟩
 have hb3 : Below w2.heap.size w2 W3 := by rw [hW3]; exact (Below.refl _ w2).alloc (Nat.le_refl _) _
 have hbw2 : Below w.heap.size w w2 := HB1.out.trans (hb2.mono HB1.out.size)
 have HW3 : Hid (NwAt w W3 ob base (.slice none 0 0) (m.take 0)) := ⟨hbw2.trans (hb3.mono hbw2.size), by have := hbw2.size; omega, by rw [hW3, hob]; exact alloc_newP _ _, fun e => (by cases e), [], GOwn.nil _ _ _ _, rfl, fun i s hi => (by simp at hi)⟩
 have c1' : W3.cell? ⟨mb, 1, none⟩ = some (.slice ad n cap) := (hb3.cell (p := ⟨mb, 1, none⟩) hmb2).trans c1
 clear hk2 hb3 hbw2 hb2
 go_upto_region 4 with fail
 rw [← hob, ← hW3]
 clear hob hW3 c0 c1
 go_wp2
 go_loopg [6, 16] n (fun gm _ s16 wr => ∃ (k : Nat) (vs2 : Value), s16 = .int .i64 k ∧ k ≤ n ∧ n - k ≤ gm ∧ Hid (NwAt w wr ob base vs2 (m.take k)))
 case atStart => exact ⟨0, _, by go_num, Nat.zero_le _, by omega, HW3⟩
 case round =>
  obtain ⟨k, vs2, rfl, hk, hgm, HNW⟩ := hrel
  obtain ⟨vd, vn, vc, hvv⟩ : ∃ vd vn vc, vs2 = .slice vd vn vc := by
   obtain ⟨xss, h1, _⟩ := HNW.out.ex
   obtain ⟨ad, cap, e, _⟩ := h1.shape
   exact ⟨_, _, _, e⟩
  subst hvv
  by_cases hlt : k < n
  · have hltz : (k : Int) < (n : Int) := by omega
    obtain ⟨s, hs⟩ : ∃ s, m[k]? = some s := ⟨m[k]'(by have := HN.out; omega), List.getElem?_eq_getElem _⟩
    obtain ⟨g, off, va, hgd, hg, x0, x1, x2, hA⟩ := HH.out.at hs
    obtain ⟨wa, wc, hva⟩ := hA.shape
    obtain ⟨na, hna⟩ : ∃ na, s.arcs.length = na := ⟨_, rfl⟩
    have HNA : Hid (s.arcs.length = na) := hna
    rw [hna] at hva
    subst hva
    subst hgd
    have hbl := HNW.out.bel
    have u0 : wr.cell? ⟨g, off + k * 3, none⟩ = some (.bool s.final) := (hbl.cell (p := ⟨g, off + k * 3, none⟩) (Nat.lt_of_lt_of_le hg hE)).trans x0
    have u1 : wr.cell? ⟨g, off + k * 3 + 1, none⟩ = some (.int .i64 s.out) := (hbl.cell (p := ⟨g, off + k * 3 + 1, none⟩) (Nat.lt_of_lt_of_le hg hE)).trans x1
    have u2 : wr.cell? ⟨g, off + k * 3 + 2, none⟩ = some (.slice wa na wc) := (hbl.cell (p := ⟨g, off + k * 3 + 2, none⟩) (Nat.lt_of_lt_of_le hg hE)).trans x2
    obtain ⟨sb, hsb⟩ : ∃ sb, sb = wr.heap.size := ⟨_, rfl⟩
    obtain ⟨W6, hW6⟩ : ∃ W6, W6 = wr.alloc (.cells #[.bool s.final, .int .i64 s.out, .slice wa na wc] 88) := ⟨_, rfl⟩
    have hb6 : Below wr.heap.size wr W6 := by rw [hW6]; exact (Below.refl _ wr).alloc (Nat.le_refl _) _
    have hn6 : W6.heap[sb]? = some (.cells #[.bool s.final, .int .i64 s.out, .slice wa na wc] 88) := by rw [hW6, hsb]; exact alloc_newP _ _
    obtain ⟨V3, hV3⟩ : ∃ V3, V3 = W6.drew := ⟨_, rfl⟩
    have hb3 : Below wr.heap.size wr V3 := by rw [hV3]; exact hb6.drew
    have hn3 : V3.heap[sb]? = some (.cells #[.bool s.final, .int .i64 s.out, .slice wa na wc] 88) := by rw [hV3]; exact hn6
    have HN3 : Hid (NwAt w V3 ob base (.slice vd vn vc) (m.take k)) := HNW.out.below hb3
    have HSBG : Hid (sb = wr.heap.size) := hsb
    have hob3 := (Array.getElem?_eq_some_iff.1 HN3.out.blk).1
    have hsb3 := (Array.getElem?_eq_some_iff.1 hn3).1
    have hS0 : S7n ob sb (.slice vd vn vc) s.final s.out (.slice wa na wc) V3 := ⟨HN3.out.facts.2.1, by simp [World.cell?, hn3], by simp [World.cell?, hn3], by simp [World.cell?, hn3]⟩
    have HCL : Hid (Calls Tryz.prog 46 #[.agg #[.bool s.final, .int .i64 s.out, .slice wa na wc]] V3 fun e w' => ∃ v', e = .returned (.agg #[.bool s.final, .int .i64 s.out, v']) ∧ (∃ ad cap, v' = .slice ad s.arcs.length cap) ∧ ArcsAt w'.heap.size w' v' s.arcs ∧ (∀ g, v'.ownBlock = some g → V3.heap.size ≤ g ∧ g < w'.heap.size) ∧ Below V3.heap.size V3 w') :=
     cloned_any E V3 s _ (hA.below (HN3.out.bel.mono hE)) (Nat.le_trans hE HN3.out.bel.size) (hsm s (List.mem_of_getElem? hs))
    have HST : Hid (m.take (k + 1) = m.take k ++ [s]) := by show _ = _; rw [List.take_add_one, hs]; rfl
    clear hb6 hn6 hb3 x0 x1 x2 hA hna hbl hs
    go_upto_region 7 with fail
    rw [← hsb, ← hW6]
    clear hsb hW6 u0 u1 u2
    have hS0' : S7n ob sb (.slice vd vn vc) s.final s.out (.slice wa na wc) W6.drew := hV3 ▸ hS0
    refine region_atE (S := S7n ob sb (.slice vd vn vc) s.final s.out (.slice wa na wc)) 8 7 rfl mixedP ?_
    rw [← hV3]
    clear hS0' hV3
    refine take_atE (i := 0) 20 rfl rfl (by kernel_rfl) (by kernel_rfl) (by kernel_rfl) (by kernel_rfl) (fun _ _ _ h => h) (by rfl) (fun _ s => by (have h := S7n.facts s; clear s; go_simp; first | done | exact rfl)) (by assumption) ?_
    simp only [sZa, sZb, sZc]
    refine take_atE (i := 1) 21 rfl rfl (by kernel_rfl) (by kernel_rfl) (by kernel_rfl) (by kernel_rfl) (fun _ _ _ h => h) (by rfl) (fun _ s => by (have h := S7n.facts s; clear s; go_simp; first | done | exact rfl)) (by assumption) ?_
    simp only [sZa, sZb, sZc]
    refine take_atE (i := 2) 22 rfl rfl (by kernel_rfl) (by kernel_rfl) (by kernel_rfl) (by kernel_rfl) (fun _ _ _ h => h) (by rfl) (fun _ s => by (have h := S7n.facts s; clear s; go_simp; first | done | exact rfl)) (by assumption) ?_
    simp only [sZa, sZb, sZc]
    refine one_callE (i := 3) (w0 := V3) 23 46 #[.agg #[.bool s.final, .int .i64 s.out, .slice wa na wc]] (by kernel_rfl) rfl rfl (by rfl) (by kernel_rfl) ?_
    refine HCL.out.mono ?_
    rintro e V5 ⟨v5, rfl, ⟨ad5, cap5, hv5⟩, hA5, hg5, hb5⟩
    rw [HNA.out] at hv5
    subst hv5
    have hS5 : S7n ob sb (.slice vd vn vc) s.final s.out (.slice wa na wc) V5 := hS0.of (hb5.block ob hob3) (hb5.block sb hsb3)
    have HN5 : Hid (NwAt w V5 ob base (.slice vd vn vc) (m.take k)) := HN3.out.below hb5
    refine ⟨_, rfl, hS5, ?_⟩
    simp only [sZa, sZb, sZc]
    obtain ⟨V4, hV4⟩ : ∃ V4, V4 = V5.alloc (.cells #[.bool s.final, .int .i64 s.out, .slice ad5 na cap5] 88) := ⟨_, rfl⟩
    have hb4 : Below V5.heap.size V5 V4 := by rw [hV4]; exact (Below.refl _ V5).alloc (Nat.le_refl _) _
    have hn4 : V4.heap[V5.heap.size]? = some (.cells #[.bool s.final, .int .i64 s.out, .slice ad5 na cap5] 88) := by rw [hV4]; exact alloc_newP _ _
    obtain ⟨xss, hX, hxl, hxe⟩ := HN5.out.ex
    obtain ⟨v', W', hap, ho', hgr, hobk⟩ := gappend_run rtyS (GOwn.below hX hb4) (Nat.le_trans HN5.out.bel.size hb4.size) (x := [.bool s.final, .int .i64 s.out, .slice ad5 na cap5]) ⟨rfl, by simp [Value.oneCell']⟩ (nb := V5.heap.size) (fun j u hj => by simp only [World.cell?, hn4]; simpa using hj) (by rw [hxl, List.length_take]; omega) 61 1
    obtain ⟨vd2, vn2, vc2, hvv2⟩ : ∃ vd vn vc, v' = .slice vd vn vc := by
     obtain ⟨ad, cap, e, _⟩ := GOwn.shape ho'
     exact ⟨_, _, _, e⟩
    subst hvv2
    have hsz35 := hb5.size
    obtain ⟨hNW, hc1, hfz⟩ := HN5.out.more hX hxl hxe hA5 (fun g hg => by
     obtain ⟨k1, k2⟩ := hg5 g hg
     refine ⟨Nat.le_trans HN3.out.bel.size k1, by omega, fun e => ?_, k2⟩
     obtain ⟨ys, hY, _⟩ := HN3.out.ex
     have := hY.lt e
     omega) hb4 ho' hgr hobk
    have hb45 : S7n ob sb (.slice vd vn vc) s.final s.out (.slice wa na wc) V4 := hS5.of (hb4.block ob (by omega)) (hb4.block sb (by omega))
    have hvsb : (Value.slice vd vn vc).ownBlock ≠ some sb := fun e => by
     obtain ⟨ys, hY, _⟩ := HNW.out.ex
     have h1 := hY.lt e
     have h2 := HSBG.out
     omega
    have hS6 : S7n ob sb (.slice vd vn vc) s.final s.out (.slice wa na wc) W' := hb45.of (hgr.block ob (by have := hb4.size; omega) (fun e => HN5.out.ap e.symm)) (hgr.block sb (by have := hb4.size; omega) (fun e => hvsb e.symm))
    obtain ⟨W8, hW8⟩ : ∃ W8, W8 = W'.setCell ⟨ob, 1, none⟩ (.slice vd2 vn2 vc2) := ⟨_, rfl⟩
    have HNX : Hid (NwAt w W8 ob base (.slice vd2 vn2 vc2) (m.take (k + 1))) := by rw [hW8, HST.out]; exact hNW
    have HAP2 : Hid ((Builtin.append_ #[61, 61] 61 #[.slice vd vn vc, .slice (some ⟨V5.heap.size, 0, none⟩) 1 1]).run Tryz.prog V4 = .ok (.slice vd2 vn2 vc2) W') := hap
    clear hap ho' hgr hobk hNW hn4 hb4 hX hxl hxe hA5 hg5 hb5 hvsb
    refine one_valueE (i := 4) (v := .slice (some ⟨V5.heap.size, 0, none⟩) 1 1) (w' := V4) 24 (by kernel_rfl) rfl rfl (by rfl) (by rw [hV4]; go_simp; first | done | exact rfl) hb45 ?_
    simp only [sZa, sZb, sZc]
    refine one_valueE (i := 5) (v := .slice vd2 vn2 vc2) (w' := W') 25 (by kernel_rfl) rfl rfl (by rfl) (exec_app HAP2.out) hS6 ?_
    simp only [sZa, sZb, sZc]
    refine one_valueE (i := 6) (v := .pointer (some ⟨ob, 1, none⟩)) (w' := W') 26 (by kernel_rfl) rfl rfl (by rfl) (by kernel_rfl) hS6 ?_
    simp only [sZa, sZb, sZc]
    refine last_skipE (w' := W8) (by kernel_rfl) rfl rfl (by rfl) (by rw [hW8]; go_simp; first | done | exact rfl) (by kernel_rfl) ?_
    clear hV4 hW8 hc1 hfz hb45 hS6 hS5 hS0
    go_wp2
    go_roundg (n - (k + 1))
    case measure => omega
    case rel => exact ⟨k + 1, _, by go_num, by omega, Nat.le_refl _, HNX⟩
  · have hltz : ¬ (k : Int) < (n : Int) := by omega
    have hkn : k = n := by omega
    subst hkn
    have HNF : Hid (NwAt w wr.drew ob base (.slice vd vn vc) m) := by
     have e : m.take k = m := List.take_of_length_le (by rw [HN.out]; exact Nat.le_refl _)
     have := HNW.out.below (Below.refl _ wr).drew
     rw [e] at this
     exact this
    have hS9 : S9n ob base (.slice vd vn vc) wr.drew := ⟨HNF.out.facts.1, HNF.out.facts.2.1⟩
    have HCO : Hid (Calls Tryz.prog 47 #[.slice vd vn vc] wr.drew fun e w' => ∃ vw, e = .returned vw ∧ CtAt wr.drew.heap.size wr.drew w' vw (D.map List.length)) :=
     counted_any wr.drew.heap.size wr.drew b D hI hF _ (by rw [HMM.out]; exact HNF.out.sts hOK (by have := HN.out; omega)) (Nat.le_refl _) hm
    have hobr := (Array.getElem?_eq_some_iff.1 HNF.out.blk).1
    go_upto_region 9 with fail
    refine region_at (S := S9n ob base (.slice vd vn vc)) 8 rfl mixedP hS9 (fun _ => ?_)
    refine tk (i := 0) 28 rfl rfl (by kernel_rfl) (fun _ s => by (have h := S9n.facts s; clear s; go_simp; first | done | exact rfl)) ?_
    simp only [sZa, sZb, sZc]
    refine tk (i := 1) 29 rfl rfl (by kernel_rfl) (fun _ s => by (have h := S9n.facts s; clear s; go_simp; first | done | exact rfl)) ?_
    simp only [sZa, sZb, sZc]
    refine tk (i := 2) 30 rfl rfl (by kernel_rfl) (fun _ s => by (have h := S9n.facts s; clear s; go_simp; first | done | exact rfl)) ?_
    simp only [sZa, sZb, sZc]
    refine one_call (i := 3) (w0 := wr.drew) 31 47 #[.slice vd vn vc] (by kernel_rfl) rfl rfl (by rfl) (by kernel_rfl) ?_
    refine HCO.out.mono ?_
    rintro e V5 ⟨vw, rfl, hct⟩
    obtain ⟨wd, wn, wc, hvw⟩ : ∃ a n c, vw = Value.slice a n c := by obtain ⟨a, c, e, _⟩ := hct.own.shape; exact ⟨_, _, _, e⟩
    subst hvw
    have HN5 : Hid (NwAt w V5 ob base (.slice vd vn vc) m) := HNF.out.below hct.bel
    have hS5 : S9n ob base (.slice vd vn vc) V5 := ⟨HN5.out.facts.1, HN5.out.facts.2.1⟩
    refine ⟨_, rfl, hS5, fun _ => ?_⟩
    simp only [sZa, sZb, sZc]
    obtain ⟨V6, hV6⟩ : ∃ V6, V6 = V5.alloc (.cells #[.int .i64 base, .slice vd vn vc, .slice wd wn wc] 93) := ⟨_, rfl⟩
    have hb6 : Below V5.heap.size V5 V6 := by rw [hV6]; exact (Below.refl _ V5).alloc (Nat.le_refl _) _
    have hn6 : V6.heap[V5.heap.size]? = some (.cells #[.int .i64 base, .slice vd vn vc, .slice wd wn wc] 93) := by rw [hV6]; exact alloc_newP _ _
    have HN6 : Hid (NwAt w V6 ob base (.slice vd vn vc) m) := HN5.out.below hb6
    have hS6 : S9n ob base (.slice vd vn vc) V6 := ⟨HN6.out.facts.1, HN6.out.facts.2.1⟩
    have HWF : Hid (WkAt V6.heap.size V6 V5.heap.size base m (D.map List.length)) := ⟨(Array.getElem?_eq_some_iff.1 hn6).1, _, _, hn6, HN6.out.sts hOK (by have := HN.out; omega), (hct.below hb6).own.reads⟩
    have HLO : Hid (w.heap.size ≤ V5.heap.size) := HN5.out.bel.size
    clear hct hb6 hn6 hS9 hS5
    refine tk (i := 4) 32 rfl rfl (by kernel_rfl) (fun _ s => by (have h := S9n.facts s; clear s; go_simp; first | done | exact rfl)) ?_
    simp only [sZa, sZb, sZc]
    refine one_value (i := 5) (v := .pointer (some ⟨V5.heap.size, 0, none⟩)) (w' := V6) 33 (by kernel_rfl) rfl rfl (by rfl) (by rw [hV6]; go_simp; first | done | exact rfl) hS6 (fun _ => ?_)
    simp only [sZa, sZb, sZc]
    refine tk (i := 6) 2 rfl rfl (by kernel_rfl) (fun _ s => by (have h := S9n.facts s; clear s; go_simp; first | done | exact rfl)) ?_
    simp only [sZa, sZb, sZc]
    refine tk (i := 7) 3 rfl rfl (by kernel_rfl) (fun _ s => by (have h := S9n.facts s; clear s; go_simp; first | done | exact rfl)) ?_
    simp only [sZa, sZb, sZc]
    refine wpAnyH_done (by kernel_rfl) ?_ _
    clear hV6 hS6
    go_wp2
    go_ret2
    exact ⟨_, rfl, HLO.out, HWF.out, HN6.out.bel⟩
end Go.Proofs.YtncnefpkfbngaaaGreatDoor

/- Cut: what the seat's translation lacks is left out. -/
/- A tour in memory; tell. -/
namespace Go.Proofs.YtncnefpkfbngaaaGreatDoor
open Go.RowKit Nums Fm Pk
set_option maxRecDepth 100000
attribute [local go_sem] Oper.semAt_some

def cellsC (c : Int) : List Value := [.int .i32 c]
abbrev COwn (B : Nat) (w : World) (v : Value) (l : List Int) : Prop := GOwn 21 1 B w v (l.map cellsC)
theorem COwn.row {B : Nat} {w : World} {v : Value} {l : List Int} (h : COwn B w v l) : Row w v l := by
 obtain ⟨ad, cap, hv, _⟩ := GOwn.shape h
 rw [List.length_map] at hv
 refine ⟨ad, cap, hv, fun h0 => ?_⟩
 obtain ⟨g, c2, hv2, hg, _, _, hc⟩ := GOwn.cell h (by rw [List.length_map]; exact h0)
 rw [hv] at hv2
 simp only [Value.slice.injEq] at hv2
 refine ⟨g, 0, hv2.1, fun i hi => ?_⟩
 have e : (l.map cellsC)[i]? = some (cellsC (l.getD i 0)) := by
  rw [List.getElem?_map, List.getElem?_eq_getElem hi, List.getD_eq_getElem?_getD, List.getElem?_eq_getElem hi]
  rfl
 have := hc i 0 _ _ e rfl
 rw [Nat.mul_one, Nat.add_zero] at this
 rw [Nat.zero_add]
 exact this
/-- The last one is taken off. -/
theorem GOwn.pop {T : TypeId} {k B : Nat} {w : World} {v : Value} {xss : List (List Value)} {x : List Value} (h : GOwn T k B w v (xss ++ [x])) : ∃ g cap, v = .slice (some ⟨g, 0, none⟩) (xss.length + 1) cap ∧ xss.length + 1 ≤ cap ∧ GOwn T k B w (.slice (some ⟨g, 0, none⟩) xss.length cap) xss := by
 obtain ⟨hc, hl, ⟨e, h0⟩ | ⟨g, cap, cur, hv, h1, hh, h3, h4, h5, h6⟩⟩ := h
 · simp at h0
 · rw [List.length_append, List.length_singleton] at hv h3 hl h6
   have hk : ∀ y ∈ xss, y.length = k := fun y hy => (hc y (List.mem_append.2 (.inl hy))).1
   have hfl : xss.flatten.length = xss.length * k := by
    clear h6 hl hv h3 hc
    induction xss with
    | nil => simp
    | cons y r ih => rw [List.flatten_cons, List.length_append, hk y (by simp), ih (fun z hz => hk z (by simp [hz])), List.length_cons, Nat.add_mul]; omega
   refine ⟨g, cap, hv, h3, fun y hy => hc y (List.mem_append.2 (.inl hy)), hfl, .inr ⟨g, cap, cur, rfl, h1, hh, by omega, h4, h5, ?_⟩⟩
   have h7 := congrArg (List.take (xss.length * k)) h6
   rw [List.take_take, List.flatten_append, ← hfl, List.take_left] at h7
   rw [← h7, hfl]
   congr 1
   have : xss.length * k ≤ (xss.length + 1) * k := Nat.mul_le_mul_right _ (by omega)
   omega
end Go.Proofs.YtncnefpkfbngaaaGreatDoor
