/- Texts that were written apart, joined. -/
import Derived.Test.YtncnefpkfbngaaaGreatDoorMe
import Derived.Test.YtncnefpkfbngaaaGreatDoorF3
import Derived.Test.YtncnefpkfbngaaaGreatDoorMf
import Derived.Test.YtncnefpkfbngaaaGreatDoorR0
import Derived.Deep.Cut
import Derived.Test.YtncnefpkfbngaaaGreatDoorMa
import Derived.Handy
/- Matches and pairs in blocks of their own. -/
namespace Go.Proofs.YtncnefpkfbngaaaGreatDoor
open Go.RowKit Go.Shelf Go.Lib Nums Fm Pk Pm Fz Ed Lv
set_option maxRecDepth 100000
namespace Mg
/-- The three cells of a match. -/
structure ThreeAt (w : World) (g o : Nat) (x : M) : Prop where
 c0 : w.cell? ⟨g, o, none⟩ = some (.string x.1)
 c1 : w.cell? ⟨g, o + 1, none⟩ = some (.int .i64 x.2.1)
 c2 : w.cell? ⟨g, o + 2, none⟩ = some (.int .i64 x.2.2)
theorem ThreeAt.below {w w' : World} {g o : Nat} {x : M} (h : ThreeAt w g o x) {B : Nat} (hg : g < B) (hb : Below B w w') : ThreeAt w' g o x :=
 ⟨(hb.cell (p := ⟨g, o, none⟩) hg).trans h.c0, (hb.cell (p := ⟨g, o + 1, none⟩) hg).trans h.c1, (hb.cell (p := ⟨g, o + 2, none⟩) hg).trans h.c2⟩
theorem ThreeAt.load {w : World} {g o : Nat} {x : M} (h : ThreeAt w g o x) : Mq.loadP Tryz.prog (.pointer (some ⟨g, o, none⟩)) w = .ok (.agg #[.string x.1, .int .i64 x.2.1, .int .i64 x.2.2]) w := Mq.loadP_at h.c0 h.c1 h.c2
theorem ThreeAt.new (W : World) (x : M) (T : TypeId) : ThreeAt (W.alloc (.cells #[.string x.1, .int .i64 x.2.1, .int .i64 x.2.2] T)) W.heap.size 0 x := ⟨by simp, by simp, by simp⟩
theorem mrow_at {w : World} {ad : Option Addr} {n cap : Nat} {l : List M} (h : MRow w (.slice ad n cap) l) (h0 : 0 < l.length) : ∃ g off, ad = some ⟨g, off, none⟩ ∧ g < w.heap.size ∧ ∀ k x, l[k]? = some x → ThreeAt w g (off + k * 3) x := by
 obtain ⟨g, off, h1, h2, h3⟩ := MRow.at h h0
 exact ⟨g, off, h1, h2, fun k x hx => ⟨(h3 k x hx).1, (h3 k x hx).2.1, (h3 k x hx).2.2⟩⟩
theorem own_row {B : Nat} {w : World} {v : Value} {l : List M} (h : MOwn B w v l) : MRow w v l := GOwn.reads h
theorem own_below {B : Nat} {w w' : World} {v : Value} {l : List M} (h : MOwn B w v l) (hb : Below w.heap.size w w') : MOwn B w' v l := GOwn.below h hb
theorem own_mono {B B' : Nat} {w : World} {v : Value} {l : List M} (h : MOwn B w v l) (hB : B' ≤ B) : MOwn B' w v l := GOwn.mono h hB
theorem own_shape {B : Nat} {w : World} {v : Value} {l : List M} (h : MOwn B w v l) : ∃ ad cap, v = .slice ad l.length cap := by
 obtain ⟨ad, cap, e, _⟩ := GOwn.shape h
 exact ⟨ad, cap, by rw [e, List.length_map]⟩
theorem own_snoc {B : Nat} {w : World} {v : Value} {l : List M} {x : M} (h : GOwn 44 3 B w v (l.map cellsM ++ [[.string x.1, .int .i64 x.2.1, .int .i64 x.2.2]])) : MOwn B w v (l ++ [x]) := by
 show GOwn _ _ _ _ _ _
 rw [List.map_append]
 exact h
theorem cells_three (x : M) : Cells 3 [Value.string x.1, .int .i64 x.2.1, .int .i64 x.2.2] := ⟨rfl, by simp [Value.oneCell']⟩
/-- A match is laid into a new block. -/
theorem box_M (W : World) (x : M) : ∃ W', Mq.storeP Tryz.prog (.pointer (some ⟨W.heap.size, 0, none⟩)) (.agg #[.string x.1, .int .i64 x.2.1, .int .i64 x.2.2]) (W.alloc (.cells #[.string ⟨#[]⟩, .int .i64 0, .int .i64 0] 44)) = .ok () W' ∧ Below W.heap.size W W' ∧ ThreeAt W' W.heap.size 0 x ∧ W.heap.size < W'.heap.size := by
 obtain ⟨W', h1, h2, h3⟩ := own_storeM (W.alloc (.cells #[.string ⟨#[]⟩, .int .i64 0, .int .i64 0] 44)) W.heap.size _ _ _ (allocN W _) x W.heap.size (Nat.le_refl _)
 obtain ⟨k0, k1, k2⟩ := cellsMq h3
 exact ⟨W', h1, ((Below.refl _ W).alloc (Nat.le_refl _) _).trans h2, ⟨k0, k1, k2⟩, (Array.getElem?_eq_some_iff.1 h3).1⟩
theorem own_storeQ (w1 : World) (mb : Nat) (a b : Value) (hb : w1.heap[mb]? = some (.cells #[a, b] 47)) (x : Pr) (B : Nat) (hB : B ≤ mb) :
 ∃ W, storeP Tryz.prog (.pointer (some ⟨mb, 0, none⟩)) (valP x) w1 = .ok () W ∧ Below B w1 W ∧ W.heap[mb]? = some (.cells (encP x).toArray 47) := by
 refine ⟨w1.setCells mb 0 (encP x), storeP_at (u := a) (v := b) (by simp [World.cell?, hb]) (by simp [World.cell?, hb]) (by simp [World.frozen?, hb]) (by simp [World.frozen?, hb]), ?_, ?_⟩
 · show Below B w1 ((w1.setCell ⟨mb, 0, none⟩ _).setCell ⟨mb, 1, none⟩ _)
   exact ((Below.refl B w1).setCell (p := ⟨mb, 0, none⟩) hB _).setCell (p := ⟨mb, 1, none⟩) hB _
 · simp [encP, World.setCells, World.setCell, Array.getElem?_modify, hb]
/-- A pair is laid into a new block. -/
theorem box_P (W : World) (x : Pr) : ∃ W', storeP Tryz.prog (.pointer (some ⟨W.heap.size, 0, none⟩)) (.agg #[.string x.1, .int .i64 x.2]) (W.alloc (.cells #[.string ⟨#[]⟩, .int .i64 0] 47)) = .ok () W' ∧ Below W.heap.size W W' ∧ TwoAt W' W.heap.size 0 x ∧ W.heap.size < W'.heap.size := by
 obtain ⟨W', h1, h2, h3⟩ := own_storeQ (W.alloc (.cells #[.string ⟨#[]⟩, .int .i64 0] 47)) W.heap.size _ _ (allocN W _) x W.heap.size (Nat.le_refl _)
 refine ⟨W', h1, ((Below.refl _ W).alloc (Nat.le_refl _) _).trans h2, ⟨by simp [World.cell?, h3, encP], by simp [World.cell?, h3, encP]⟩, (Array.getElem?_eq_some_iff.1 h3).1⟩
theorem two_load {w : World} {g o : Nat} {x : Pr} (h : TwoAt w g o x) : loadP Tryz.prog (.pointer (some ⟨g, o, none⟩)) w = .ok (.agg #[.string x.1, .int .i64 x.2]) w := h.load
end Mg
end Go.Proofs.YtncnefpkfbngaaaGreatDoor

/- The reference's Put and Norm. -/
namespace Go.Proofs.YtncnefpkfbngaaaGreatDoor
open Go.RowKit Nums Pm
set_option maxRecDepth 100000

/-- What Put has made of the first k pairs. -/
structure PutAt6 (l : List Pr) (p : Pr) (k : Nat) (done : Bool) (acc : List Pr) : Prop where
 len : acc.length ≤ k + (if done then 1 else 0)
 eq : acc ++ putP lessB p done (l.drop k) = putP lessB p false l
theorem PutAt6.start (l : List Pr) (p : Pr) : PutAt6 l p 0 false [] := ⟨by simp, by simp⟩
theorem PutAt6.step {l : List Pr} {p : Pr} {k : Nat} {done : Bool} {acc : List Pr} (h : PutAt6 l p k done acc) {x : Pr} (hx : l[k]? = some x) :
 PutAt6 l p (k + 1) (done || !(lessB x.1 p.1)) (acc ++ (if !done && !(lessB x.1 p.1) then [p] else []) ++ (if x.1 ≠ p.1 then [x] else [])) := by
 refine ⟨?_, by rw [← h.eq, drop_at l k x hx, putP_step]⟩
 have := h.len
 cases done <;> cases lessB x.1 p.1 <;> by_cases e : x.1 = p.1 <;> simp [e] at this ⊢ <;> omega
theorem PutAt6.fin {l : List Pr} {p : Pr} {k : Nat} {done : Bool} {acc : List Pr} (h : PutAt6 l p k done acc) (hk : l.length ≤ k) : acc ++ (if done then [] else [p]) = putP lessB p false l := by
 rw [← h.eq, List.drop_eq_nil_of_le hk]; rfl
set_option maxHeartbeats 4000000 in
theorem refPut_any (w : World) (v : Value) (l : List Pr) (p : Pr) (h : PRow w v l) (hl : l.length < 549755813888) (hsm : Sm l) (hps : p.1.size ≤ 9223372036854775807) :
 Calls Tryz.prog 42 #[v, .agg #[.string p.1, .int .i64 p.2]] w fun e w' => ∃ v', e = .returned v' ∧ POwn w.heap.size w' v' (put lessB l p) ∧ Below w.heap.size w w' := by
 obtain ⟨ad, cap, rfl⟩ := h.form
 have HR : Hid (PRow w (.slice ad l.length cap) l) := h
 obtain ⟨n, hn⟩ : ∃ n, l.length = n := ⟨_, rfl⟩
 have HN : Hid (l.length = n) := hn
 have HS : Hid (Sm l) := hsm
 have HPS : Hid (p.1.size ≤ 9223372036854775807) := hps
 rw [hn] at HR hl
 clear h hsm hps
 rw [hn]
 clear hn
 go_enter Tryz.func42, Tryz.ntmps42
 go_wp2
 obtain ⟨w1, hw1⟩ : ∃ w1, w1 = w.alloc (.cells #[.string p.1, .int .i64 p.2] 47) := ⟨_, rfl⟩
 rw [← hw1]
 have HW1 : Hid (Below w.heap.size w w1) := by show Below _ _ _; rw [hw1]; exact (Below.refl _ w).alloc (Nat.le_refl _) _
 have HTP : Hid (TwoAt w1 w.heap.size 0 p) := by show TwoAt _ _ _ _; rw [hw1]; exact TwoAt.new w p _
 have HR1 : Hid (PRow w1 (.slice ad n cap) l) := HR.out.below HW1.out
 have hbp : w.heap.size < w1.heap.size := by rw [hw1]; simp
 have HFR : Hid (∀ W v' m, POwn w1.heap.size W v' m → Below w1.heap.size w1 W → POwn w.heap.size W v' m ∧ Below w.heap.size w W) := fun W v' m h1 h2 => ⟨h1.mono (by omega), HW1.out.trans (h2.mono (by omega))⟩
 clear hw1 HR HW1
 generalize hbe : w.heap.size = bp at hbp HTP HFR
 have HBE : Hid (w.heap.size = bp) := hbe
 clear hbe
 go_loopg [5, 6, 7] n (fun g s5 s6 s7 wr => ∃ (k : Nat) (done : Bool) (acc : List Pr), s6 = .bool done ∧ s7 = .int .i64 k ∧ k ≤ n ∧ n - k ≤ g ∧ Hid (PutAt6 l p k done acc) ∧ Hid (POwn w1.heap.size wr s5 acc) ∧ Hid (Below w1.heap.size w1 wr))
 case atStart => exact ⟨0, false, [], rfl, rfl, Nat.zero_le _, by omega, PutAt6.start l p, POwn.nil _ _, Below.refl _ _⟩
 case round =>
  obtain ⟨k, done, acc, rfl, rfl, hk, hg, HP, HO, HB⟩ := hrel
  by_cases hlt : k < n
  · have hltz : (k : Int) < (n : Int) := by omega
    obtain ⟨x, hx⟩ : ∃ x, l[k]? = some x := ⟨l[k]'(by have := HN.out; omega), List.getElem?_eq_getElem _⟩
    obtain ⟨b, off, rfl, hb, hcell⟩ := HR1.out.at (by omega)
    have HX : Hid (l[k]? = some x) := hx
    have HT : Hid (∀ W, Below w1.heap.size w1 W → TwoAt W b (off + k * 2) x ∧ TwoAt W bp 0 p) := fun W hW => ⟨(hcell k x hx).below hb hW, HTP.out.below hbp hW⟩
    have hls := fun W => ahead_any x.1 p.1 W (HS.out.at hx) HPS.out
    obtain ⟨⟨c0, c1⟩, ⟨d0, d1⟩⟩ := HT.out wr HB.out
    rw [Nat.zero_add] at d1
    have HLZ0 : Hid (acc.length ≤ k + 1) := by have := HP.out.len; show _ ≤ _; cases done <;> simp at this <;> omega
    clear hcell hx
    cases done
    · cases hlx : lessB x.1 p.1
      · have HSTEP : Hid (∀ tail, (if x.1 ≠ p.1 then [x] else []) = tail → PutAt6 l p (k + 1) true (acc ++ [p] ++ tail)) := by
         show ∀ tail, _
         intro tail ht
         have h := HP.out.step HX.out
         rw [hlx, ht] at h
         exact h
        rw [hlx] at hls
        clear hlx
        go_wp2_with fail
        go_quiet (first | (go_at_call 41; refine Calls.quiet_of (hls _)))
        have HOq : Hid (POwn w1.heap.size (wr.drewN nq) u5 acc) := HO.out.below (belowN (Below.refl _ wr) nq)
        have hWn : (wr.drewN nq).heap.size = wr.heap.size := rfl
        have HBq : Hid (Below w1.heap.size w1 (wr.drewN nq)) := belowN HB.out nq
        go_wp2_with (at_builtin; refine append_x (by rfl) _ _ p _ rfl w1.heap.size _ _ _ acc rfl HOq.out rfl hWn.symm (by have := HLZ0.out; omega) HBq.out.size ?_)
        intro uz wz hr2 hb2
        obtain ⟨accz, hac⟩ : ∃ accz, accz = acc ++ [p] := ⟨_, rfl⟩
        have HOz : Hid (POwn w1.heap.size wz uz accz) := by show POwn _ _ _ _; rw [hac]; exact hr2
        have HBz : Hid (Below w1.heap.size w1 wz) := HBq.out.trans hb2
        have HLZ : Hid (accz.length ≤ k + 2) := by have := HLZ0.out; show _ ≤ _; rw [hac]; simp; omega
        rw [← hac] at HSTEP
        obtain ⟨⟨z0, z1⟩, ⟨y0, y1⟩⟩ := HT.out wz HBz.out
        rw [Nat.zero_add] at y1
        obtain ⟨dz, hdz⟩ : ∃ dz, dz = true := ⟨_, rfl⟩
        rw [← hdz] at HSTEP
        have HDZ : Hid (dz = true) := hdz
        clear hr2 hb2 hac HOq HBq hWn c0 c1 d0 d1 hdz
        go_upto_region 9 with fail
        by_cases hxp : x.1 = p.1
        · have hs : (x.1.toList == p.1.toList) = true := by rw [strEq]; exact decide_eq_true hxp
          have HST : Hid (PutAt6 l p (k + 1) dz accz) := by
           have h := HSTEP.out [] (if_neg (fun e => e hxp))
           rw [List.append_nil] at h
           exact h
          clear hxp
          go_wp2_with fail
          go_quiet (fail)
          have HOy : Hid (POwn w1.heap.size (wz.drewN nq) uz accz) := HOz.out.below (belowN (Below.refl _ wz) nq)
          have HBy : Hid (Below w1.heap.size w1 (wz.drewN nq)) := belowN HBz.out nq
          go_wp2_with fail
          go_roundg (n - (k + 1))
          case measure => omega
          case rel =>
           have HST2 := HST.out
           rw [HDZ.out] at HST2
           exact ⟨k + 1, _, _, rfl, by go_num, by omega, Nat.le_refl _, HST2, HOy, HBy⟩
        · have hs : (x.1.toList == p.1.toList) = false := by rw [strEq]; exact decide_eq_false hxp
          have HST : Hid (PutAt6 l p (k + 1) dz (accz ++ [x])) := HSTEP.out [x] (if_pos hxp)
          clear hxp
          go_wp2_with fail
          go_quiet (fail)
          have HOq : Hid (POwn w1.heap.size (wz.drewN nq) uz accz) := HOz.out.below (belowN (Below.refl _ wz) nq)
          have hWn : (wz.drewN nq).heap.size = wz.heap.size := rfl
          have HBq : Hid (Below w1.heap.size w1 (wz.drewN nq)) := belowN HBz.out nq
          go_wp2_with (at_builtin; refine append_x (by rfl) _ _ x _ rfl w1.heap.size _ _ _ accz rfl HOq.out rfl hWn.symm (by have := HLZ.out; omega) HBq.out.size ?_)
          intro v4 w4 hr4 hb4
          have HOy : Hid (POwn w1.heap.size w4 v4 (accz ++ [x])) := hr4
          have HBy : Hid (Below w1.heap.size w1 w4) := HBq.out.trans hb4
          clear hr4 hb4
          go_wp2_with fail
          go_roundg (n - (k + 1))
          case measure => omega
          case rel =>
           have HST2 := HST.out
           rw [HDZ.out] at HST2
           exact ⟨k + 1, _, _, rfl, by go_num, by omega, Nat.le_refl _, HST2, HOy, HBy⟩
      · have HSTEP : Hid (∀ tail, (if x.1 ≠ p.1 then [x] else []) = tail → PutAt6 l p (k + 1) false (acc ++ tail)) := by
         show ∀ tail, _
         intro tail ht
         have h := HP.out.step HX.out
         rw [hlx, ht] at h
         simpa using h
        rw [hlx] at hls
        clear hlx
        go_wp2_with fail
        go_quiet (first | (go_at_call 41; refine Calls.quiet_of (hls _)))
        obtain ⟨accz, hac⟩ : ∃ accz, accz = acc := ⟨_, rfl⟩
        obtain ⟨uz, huz⟩ : ∃ uz, uz = u5 := ⟨_, rfl⟩
        obtain ⟨dz, hdz⟩ : ∃ dz, dz = false := ⟨_, rfl⟩
        rw [← hac, ← hdz] at HSTEP
        rw [← hac, ← huz] at HO
        rw [← huz]
        have HDZ : Hid (dz = false) := hdz
        have HLZ : Hid (accz.length ≤ k + 2) := by have := HLZ0.out; show _ ≤ _; rw [hac]; omega
        clear hac hdz huz
        obtain ⟨wz, hwz⟩ : ∃ wz, wz = wr.drewN nq := ⟨_, rfl⟩
        rw [← hwz]
        have HOz : Hid (POwn w1.heap.size wz uz accz) := by show POwn _ _ _ _; rw [hwz]; exact HO.out.below (belowN (Below.refl _ wr) nq)
        have HBz : Hid (Below w1.heap.size w1 wz) := by show Below _ _ _; rw [hwz]; exact belowN HB.out nq
        obtain ⟨⟨z0, z1⟩, ⟨y0, y1⟩⟩ := HT.out wz HBz.out
        rw [Nat.zero_add] at y1
        clear hwz c0 c1 d0 d1
        go_upto_region 9 with fail
        by_cases hxp : x.1 = p.1
        · have hs : (x.1.toList == p.1.toList) = true := by rw [strEq]; exact decide_eq_true hxp
          have HST : Hid (PutAt6 l p (k + 1) dz accz) := by
           have h := HSTEP.out [] (if_neg (fun e => e hxp))
           rw [List.append_nil] at h
           exact h
          clear hxp
          go_wp2_with fail
          go_quiet (fail)
          have HOy : Hid (POwn w1.heap.size (wz.drewN nq) uz accz) := HOz.out.below (belowN (Below.refl _ wz) nq)
          have HBy : Hid (Below w1.heap.size w1 (wz.drewN nq)) := belowN HBz.out nq
          go_wp2_with fail
          go_roundg (n - (k + 1))
          case measure => omega
          case rel =>
           have HST2 := HST.out
           rw [HDZ.out] at HST2
           exact ⟨k + 1, _, _, rfl, by go_num, by omega, Nat.le_refl _, HST2, HOy, HBy⟩
        · have hs : (x.1.toList == p.1.toList) = false := by rw [strEq]; exact decide_eq_false hxp
          have HST : Hid (PutAt6 l p (k + 1) dz (accz ++ [x])) := HSTEP.out [x] (if_pos hxp)
          clear hxp
          go_wp2_with fail
          go_quiet (fail)
          have HOq : Hid (POwn w1.heap.size (wz.drewN nq) uz accz) := HOz.out.below (belowN (Below.refl _ wz) nq)
          have hWn : (wz.drewN nq).heap.size = wz.heap.size := rfl
          have HBq : Hid (Below w1.heap.size w1 (wz.drewN nq)) := belowN HBz.out nq
          go_wp2_with (at_builtin; refine append_x (by rfl) _ _ x _ rfl w1.heap.size _ _ _ accz rfl HOq.out rfl hWn.symm (by have := HLZ.out; omega) HBq.out.size ?_)
          intro v4 w4 hr4 hb4
          have HOy : Hid (POwn w1.heap.size w4 v4 (accz ++ [x])) := hr4
          have HBy : Hid (Below w1.heap.size w1 w4) := HBq.out.trans hb4
          clear hr4 hb4
          go_wp2_with fail
          go_roundg (n - (k + 1))
          case measure => omega
          case rel =>
           have HST2 := HST.out
           rw [HDZ.out] at HST2
           exact ⟨k + 1, _, _, rfl, by go_num, by omega, Nat.le_refl _, HST2, HOy, HBy⟩
    · have HSTEP : Hid (∀ tail, (if x.1 ≠ p.1 then [x] else []) = tail → PutAt6 l p (k + 1) true (acc ++ tail)) := by
       show ∀ tail, _
       intro tail ht
       have h := HP.out.step HX.out
       rw [ht] at h
       simpa using h
      go_wp2_with fail
      go_quiet (fail)
      obtain ⟨accz, hac⟩ : ∃ accz, accz = acc := ⟨_, rfl⟩
      obtain ⟨uz, huz⟩ : ∃ uz, uz = u5 := ⟨_, rfl⟩
      obtain ⟨dz, hdz⟩ : ∃ dz, dz = true := ⟨_, rfl⟩
      rw [← hac, ← hdz] at HSTEP
      rw [← hac, ← huz] at HO
      rw [← huz]
      have HDZ : Hid (dz = true) := hdz
      have HLZ : Hid (accz.length ≤ k + 2) := by have := HLZ0.out; show _ ≤ _; rw [hac]; omega
      clear hac hdz huz
      obtain ⟨wz, hwz⟩ : ∃ wz, wz = wr.drewN nq := ⟨_, rfl⟩
      rw [← hwz]
      have HOz : Hid (POwn w1.heap.size wz uz accz) := by show POwn _ _ _ _; rw [hwz]; exact HO.out.below (belowN (Below.refl _ wr) nq)
      have HBz : Hid (Below w1.heap.size w1 wz) := by show Below _ _ _; rw [hwz]; exact belowN HB.out nq
      obtain ⟨⟨z0, z1⟩, ⟨y0, y1⟩⟩ := HT.out wz HBz.out
      rw [Nat.zero_add] at y1
      clear hwz c0 c1 d0 d1
      go_upto_region 9 with fail
      by_cases hxp : x.1 = p.1
      · have hs : (x.1.toList == p.1.toList) = true := by rw [strEq]; exact decide_eq_true hxp
        have HST : Hid (PutAt6 l p (k + 1) dz accz) := by
         have h := HSTEP.out [] (if_neg (fun e => e hxp))
         rw [List.append_nil] at h
         exact h
        clear hxp
        go_wp2_with fail
        go_quiet (fail)
        have HOy : Hid (POwn w1.heap.size (wz.drewN nq) uz accz) := HOz.out.below (belowN (Below.refl _ wz) nq)
        have HBy : Hid (Below w1.heap.size w1 (wz.drewN nq)) := belowN HBz.out nq
        go_wp2_with fail
        go_roundg (n - (k + 1))
        case measure => omega
        case rel =>
         have HST2 := HST.out
         rw [HDZ.out] at HST2
         exact ⟨k + 1, _, _, rfl, by go_num, by omega, Nat.le_refl _, HST2, HOy, HBy⟩
      · have hs : (x.1.toList == p.1.toList) = false := by rw [strEq]; exact decide_eq_false hxp
        have HST : Hid (PutAt6 l p (k + 1) dz (accz ++ [x])) := HSTEP.out [x] (if_pos hxp)
        clear hxp
        go_wp2_with fail
        go_quiet (fail)
        have HOq : Hid (POwn w1.heap.size (wz.drewN nq) uz accz) := HOz.out.below (belowN (Below.refl _ wz) nq)
        have hWn : (wz.drewN nq).heap.size = wz.heap.size := rfl
        have HBq : Hid (Below w1.heap.size w1 (wz.drewN nq)) := belowN HBz.out nq
        go_wp2_with (at_builtin; refine append_x (by rfl) _ _ x _ rfl w1.heap.size _ _ _ accz rfl HOq.out rfl hWn.symm (by have := HLZ.out; omega) HBq.out.size ?_)
        intro v4 w4 hr4 hb4
        have HOy : Hid (POwn w1.heap.size w4 v4 (accz ++ [x])) := hr4
        have HBy : Hid (Below w1.heap.size w1 w4) := HBq.out.trans hb4
        clear hr4 hb4
        go_wp2_with fail
        go_roundg (n - (k + 1))
        case measure => omega
        case rel =>
         have HST2 := HST.out
         rw [HDZ.out] at HST2
         exact ⟨k + 1, _, _, rfl, by go_num, by omega, Nat.le_refl _, HST2, HOy, HBy⟩
  · have hltz : ¬ (k : Int) < (n : Int) := by omega
    cases done
    · have HF : Hid (acc ++ [p] = putP lessB p false l) := by show _ = _; have := HP.out.fin (by have := HN.out; omega); simpa using this
      obtain ⟨d0, d1⟩ := HTP.out.below hbp HB.out
      rw [Nat.zero_add] at d1
      have HL0 : Hid (acc.length ≤ k) := by have := HP.out.len; show _ ≤ _; simpa using this
      go_wp2_with (at_builtin; refine append_x (by rfl) _ _ p _ rfl w1.heap.size _ _ _ acc rfl HO.out rfl rfl (by have := HL0.out; omega) HB.out.size ?_)
      intro v2 w2 hr2 hb2
      go_wp2_with fail
      go_ret
      obtain ⟨r1, r2⟩ := HFR.out _ _ _ hr2 (HB.out.trans hb2)
      rw [HBE.out]
      refine ⟨_, rfl, ?_, r2⟩
      show POwn _ _ _ (putP lessB p false l)
      rw [← HF.out]
      exact r1
    · have HF : Hid (acc = putP lessB p false l) := by show _ = _; have := HP.out.fin (by have := HN.out; omega); simpa using this
      go_wp2
      go_ret
      obtain ⟨r1, r2⟩ := HFR.out _ _ _ HO.out HB.out
      rw [HBE.out]
      refine ⟨_, rfl, ?_, r2⟩
      show POwn _ _ _ (putP lessB p false l)
      rw [← HF.out]
      exact r1
end Go.Proofs.YtncnefpkfbngaaaGreatDoor

/- The reference's Norm and Merge. -/
namespace Go.Proofs.YtncnefpkfbngaaaGreatDoor
open Go.RowKit Nums Pm
set_option maxRecDepth 100000

theorem fold_len : ∀ (l a : List Pr), (l.foldl (put lessB) a).length ≤ a.length + l.length
 | [], a => by simp
 | x :: r, a => by
  have h := fold_len r (put lessB a x)
  have h2 : (put lessB a x).length ≤ a.length + 1 := by
   have := (PutAt6.mk (l := a) (p := x) (k := 0) (done := false) (acc := []) (by simp) (by simp))
   clear this
   suffices H : ∀ (a : List Pr) (d : Bool), (putP lessB x d a).length ≤ a.length + (if d then 0 else 1) from H a false
   intro a
   induction a with
   | nil => intro d; cases d <;> simp [putP]
   | cons y a ih =>
    intro d
    rw [putP]
    have h1 := ih true
    have h0 := ih false
    cases d <;> cases lessB y.1 x.1 <;> by_cases e : y.1 = x.1 <;> simp [e] at h1 h0 ⊢ <;> omega
  rw [List.foldl_cons, List.length_cons]
  omega
theorem norm_len (l : List Pr) : (norm lessB l).length ≤ l.length := by have := fold_len l []; simpa [norm] using this
theorem norm_mem {l : List Pr} {x : Pr} (h : x ∈ norm lessB l) : x ∈ l := by
 have e := SUp.find_of_mem lessB_sto (norm_up lessB_sto l) h
 rw [norm_find lessB_sto] at e
 exact find_mem e
theorem Sm.norm {l : List Pr} (h : Sm l) : Sm (Pm.norm lessB l) := fun x hx => h x (norm_mem hx)
theorem Sm.keep {l : List Pr} (h : Sm l) : Sm (Pm.keep l) := fun x hx => h x (List.mem_filter.1 hx).1
theorem Sm.append {l m : List Pr} (h : Sm l) (k : Sm m) : Sm (l ++ m) := fun x hx => by
 rcases List.mem_append.1 hx with a | a
 · exact h x a
 · exact k x a
set_option maxHeartbeats 2000000 in
theorem refNorm_any (w : World) (v : Value) (l : List Pr) (h : PRow w v l) (hl : l.length < 274877906944) (hsm : Sm l) :
 Calls Tryz.prog 23 #[v] w fun e w' => ∃ v', e = .returned v' ∧ POwn w.heap.size w' v' (norm lessB l) ∧ Below w.heap.size w w' := by
 obtain ⟨ad, cap, rfl⟩ := h.form
 have HR : Hid (PRow w (.slice ad l.length cap) l) := h
 obtain ⟨n, hn⟩ : ∃ n, l.length = n := ⟨_, rfl⟩
 have HN : Hid (l.length = n) := hn
 have HS : Hid (Sm l) := hsm
 rw [hn] at HR hl
 clear h hsm
 rw [hn]
 clear hn
 go_enter Tryz.func23, Tryz.ntmps23
 go_wp2
 go_loopg [3, 4] n (fun g s3 s4 wr => ∃ (k : Nat), s4 = .int .i64 k ∧ k ≤ n ∧ n - k ≤ g ∧ Hid (POwn w.heap.size wr s3 (norm lessB (l.take k))) ∧ Hid (Below w.heap.size w wr))
 case atStart => exact ⟨0, rfl, Nat.zero_le _, by omega, POwn.nil _ _, Below.refl _ _⟩
 case round =>
  obtain ⟨k, rfl, hk, hg, HO, HB⟩ := hrel
  by_cases hlt : k < n
  · have hltz : (k : Int) < (n : Int) := by omega
    obtain ⟨x, hx⟩ : ∃ x, l[k]? = some x := ⟨l[k]'(by have := HN.out; omega), List.getElem?_eq_getElem _⟩
    obtain ⟨b, off, rfl, hb, hcell⟩ := (HR.out.below HB.out).at (by omega)
    obtain ⟨c0, c1⟩ := hcell k x hx
    have hc := refPut_any wr u3 (norm lessB (l.take k)) x HO.out.row (by have := norm_len (l.take k); have : (l.take k).length ≤ k := List.length_take_le ..; omega) (Sm.norm fun y hy => HS.out y (List.mem_of_mem_take hy)) (HS.out.at hx)
    have HE : Hid (put lessB (norm lessB (l.take k)) x = norm lessB (l.take (k + 1))) := by
     show _ = _
     rw [show l.take (k + 1) = l.take k ++ [x] by rw [List.take_add_one, hx]; rfl, norm, norm, List.foldl_append]
     rfl
    clear hcell hx
    go_wp2_with (go_at_call 42; refine hc.mono ?_; rintro e w2 ⟨v2, rfl, ho2, hb2⟩)
    go_roundg (n - (k + 1))
    case measure => omega
    case rel =>
     rw [HE.out] at ho2
     exact ⟨k + 1, by go_num, by omega, Nat.le_refl _, ho2.mono HB.out.size, HB.out.trans (hb2.mono HB.out.size)⟩
  · have hltz : ¬ (k : Int) < (n : Int) := by omega
    have HE : Hid (l.take k = l) := List.take_of_length_le (by have := HN.out; omega)
    rw [HE.out] at HO
    go_wp2
    go_ret
    exact ⟨_, rfl, HO.out, HB.out⟩
end Go.Proofs.YtncnefpkfbngaaaGreatDoor

/- What Merge comes to: plain mathematics. -/
namespace Go.Proofs.YtncnefpkfbngaaaGreatDoor
open Go.RowKit Go.Shelf Go.Lib Nums Fm Pk Pm Fz Ed Lv
set_option maxRecDepth 100000
namespace Mg
/-- Is a match kept? -/
def fOf (C : List Pr) (x : Mq.Pr) : Bool := !hasW C x.1
theorem keep_snoc (C : List Pr) {l : List Mq.Pr} {k : Nat} {x : Mq.Pr} (hx : l[k]? = some x) : (l.take (k + 1)).filter (fOf C) = (l.take k).filter (fOf C) ++ (if hasW C x.1 then [] else [x]) := by
 rw [take_snoc hx, List.filter_append]
 cases h : hasW C x.1 <;> simp [fOf, h]
theorem put_snoc {C : List Pr} {word : List UInt8} {e : Int} {k : Nat} {p : Pr} (hx : C[k]? = some p) : (C.take (k + 1)).filterMap (mtch word e) = (C.take k).filterMap (mtch word e) ++ (mtch word e p).toList := by
 rw [take_snoc hx, List.filterMap_append]
 cases h : mtch word e p <;> simp [h]
/-- What is left of the matches, what is put in. -/
def baseM (l : List Mq.Pr) (C : List Pr) (word : List UInt8) (e : Int) : List Mq.Pr := l.filter (fOf C) ++ C.filterMap (mtch word e)
def mgL (l : List Mq.Pr) (over : List Pr) (word : List UInt8) (e : Int) : List Mq.Pr := if Go.Proofs.YtncnefpkfbngaaaGreatDoor.rightB word e = true then insAll lessB (baseM l (norm lessB over) word e) else []
theorem hasW_find {C : List Pr} (hC : SUp lessB C) (k : ByteArray) : hasW C k = (Pm.find C k).isSome := by
 unfold hasW
 rw [Bool.eq_iff_iff, decide_eq_true_iff]
 constructor
 · rintro ⟨p, hp, rfl⟩
   rw [SUp.find_of_mem lessB_sto hC hp]; rfl
 · intro h
   obtain ⟨v, hv⟩ := Option.isSome_iff_exists.1 h
   exact ⟨(k, v), find_mem hv, rfl⟩
theorem mtch_word {word : List UInt8} {e : Int} {p : Pr} {m : Mq.Pr} (h : mtch word e p = some m) : m.1 = p.1 := by
 unfold mtch at h
 split at h
 · cases h
 · split at h
   · split at h
     · rw [← Option.some.inj h]
     · cases h
   · cases h
/-- Of one word. -/
theorem of_fmap {f : Pr → Option Mq.Pr} (hf : ∀ p m, f p = some m → m.1 = p.1) (k : ByteArray) : ∀ {S : List Pr}, SUp lessB S → Mq.of k (S.filterMap f) = match Pm.find S k with | some v => (f (k, v)).toList | none => []
 | [], _ => by rw [find_nil]; rfl
 | x :: r, h => by
  obtain ⟨h1, h2⟩ := List.pairwise_cons.1 h
  have ih := of_fmap hf k h2
  by_cases e : x.1 = k
  · have hn : Pm.find r k = none := find_none_of fun y hy he => by
     have := h1 y hy
     rw [he, e, lessB_sto.irr] at this
     cases this
    rw [find_cons, hn, if_pos e]
    rw [hn] at ih
    simp only [Option.none_or]
    have ex : (k, x.2) = x := by rw [← e]
    rw [ex]
    cases hx : f x with
    | none =>
     rw [List.filterMap_cons_none hx, ih]; rfl
    | some m =>
     rw [List.filterMap_cons_some hx]
     have hm : m.1 = k := (hf x m hx).trans e
     have : Mq.of k (m :: List.filterMap f r) = m :: Mq.of k (List.filterMap f r) := by rw [← hm]; exact Mq.of_cons_same m _
     rw [this, ih]; rfl
  · rw [find_cons, if_neg e, Option.or_none, ← ih]
    cases hx : f x with
    | none => rw [List.filterMap_cons_none hx]
    | some m =>
     rw [List.filterMap_cons_some hx, Mq.of_cons_ne (by rw [hf x m hx]; exact e)]
theorem of_filt (l : List Mq.Pr) (C : List Pr) (k : ByteArray) : Mq.of k (l.filter (fOf C)) = if hasW C k then [] else Mq.of k l := by
 show Mq.of k (l.filter fun m => !hasW C m.1) = _
 unfold Mq.of
 rw [List.filter_filter]
 by_cases h : hasW C k = true
 · rw [if_pos h, List.filter_eq_nil_iff]
   intro x _ hx
   simp only [Bool.and_eq_true, decide_eq_true_eq, Bool.not_eq_true'] at hx
   rw [hx.1] at hx
   rw [h] at hx
   exact absurd hx.2 (by decide)
 · rw [if_neg h]
   refine List.filter_congr fun x _ => ?_
   by_cases e : x.1 = k
   · rw [e]; simp [h]
   · simp [e]
def nearP (xs : List Int) (d : Nat) (p : Pr) : Option Mq.Pr := if lv (entOf p).1 xs ≤ d then some (p.1, p.2, (lv (entOf p).1 xs : Int)) else none
theorem nearP_word {xs : List Int} {d : Nat} {p : Pr} {m : Mq.Pr} (h : nearP xs d p = some m) : m.1 = p.1 := by
 unfold nearP at h
 split at h
 · rw [← Option.some.inj h]
 · cases h
theorem fmap_sup {f : Pr → Option Mq.Pr} (hf : ∀ p m, f p = some m → m.1 = p.1) {S : List Pr} (h : SUp lessB S) : Mq.SUp lessB (S.filterMap f) := by
 refine List.pairwise_filterMap.2 (h.imp fun {a b} hab m hm q hq => ?_)
 rw [hf a m hm, hf b q hq]
 exact hab
theorem near_sup {l : List Pr} (h : buildE l = 0) (xs : List Int) (d : Nat) : Mq.SUp lessB (nearOf xs d l) := fmap_sup (f := nearP xs d) (fun _ _ => nearP_word) (built_all h).2.1
theorem mtch_near {word : ByteArray} {e : Int} {xs : List Int} {d : Nat} {p : Pr} (hx : rs word.data.toList = some xs) (hl : xs.length ≤ 24) (hd : e = (d : Int)) (hw : wordB p.1.data.toList = true) (hp : 1 ≤ p.2) : mtch word.data.toList e p = nearP xs d p := by
 unfold mtch nearP
 rw [if_neg (by rintro (h | h); omega; rw [hw] at h; cases h), ds_word hw hx hl]
 simp only
 subst hd
 by_cases h : lv (entOf p).1 xs ≤ d
 · rw [if_pos h, if_pos (by omega)]
 · rw [if_neg h, if_neg (by omega)]
/-- The laying over, and the machine in which all is made. -/
theorem mg_over {l over : List Pr} {word : ByteArray} {e : Int} (hl : buildE l = 0) (hb : buildE (merge lessB l over) = 0) (hr : Go.Proofs.YtncnefpkfbngaaaGreatDoor.rightB word.data.toList e = true) : mgL (allL l word.data.toList e) over word.data.toList e = allL (merge lessB l over) word.data.toList e := by
 have hh := hr
 simp only [Go.Proofs.YtncnefpkfbngaaaGreatDoor.rightB, Bool.and_eq_true, decide_eq_true_eq] at hh
 obtain ⟨⟨hw, h0⟩, h3⟩ := hh
 obtain ⟨xs, hxs, hx1, hx24, hx96, _⟩ := word_runes (x := (word, 0)) hw
 simp only at hxs
 obtain ⟨d, rfl⟩ : ∃ d : Nat, e = (d : Int) := ⟨e.toNat, by omega⟩
 unfold mgL allL
 rw [if_pos hr, if_pos hr, if_pos hr, hxs]
 simp only [Option.getD_some, Int.toNat_natCast]
 have hC := norm_up lessB_sto over
 refine stably_one lessB_sto (insAll_ok lessB_sto _) ⟨(near_sup hb xs d).up lessB_sto, fun k => ?_⟩
 unfold baseM
 rw [Mq.of_append, of_filt, hasW_find hC, of_fmap (fun _ _ => mtch_word) k hC]
 have e1 : Mq.of k (nearOf xs d (merge lessB l over)) = match Pm.find (merge lessB l over) k with | some v => (nearP xs d (k, v)).toList | none => [] := of_fmap (f := nearP xs d) (fun _ _ => nearP_word) k (merge_up lessB_sto l over)
 have e2 : Mq.of k (nearOf xs d l) = match Pm.find l k with | some v => (nearP xs d (k, v)).toList | none => [] := of_fmap (f := nearP xs d) (fun _ _ => nearP_word) k (built_all hl).2.1
 rw [e1, e2, norm_find lessB_sto, merge_find lessB_sto]
 have hall := (built_all hb).1
 have hall1 := (built_all hl).1
 cases hf : Pm.find over k with
 | some v =>
  simp only [Option.isSome_some, if_true, List.nil_append, Option.some_or]
  by_cases h0 : v = 0
  · subst h0
    rw [show Option.filter (fun v => !(v == 0)) (some (0 : Int)) = none from rfl]
    simp only
    unfold mtch
    rw [if_pos (.inl (Int.le_refl _))]; rfl
  · have hv : Option.filter (fun v => !(v == 0)) (some v) = some v := by simp [Option.filter, h0]
    rw [hv]
    simp only
    have hm : (k, v) ∈ merge lessB l over := find_mem (by rw [merge_find lessB_sto, hf]; exact hv)
    obtain ⟨g1, g2, _⟩ := hall _ hm
    rw [mtch_near hxs hx24 rfl g1 g2]
 | none =>
  simp only [Option.isSome_none, Bool.false_eq_true, if_false, List.append_nil, Option.none_or]
  cases hg : Pm.find l k with
  | none => rfl
  | some v =>
   have h1 := (hall1 _ (find_mem hg)).2.1
   simp only at h1
   have hv : Option.filter (fun v => !(v == 0)) (some v) = some v := by simp [Option.filter]; omega
   rw [hv]
theorem mg_nothing {l : List Pr} {word : ByteArray} {e : Int} (hl : buildE l = 0) : mgL (allL l word.data.toList e) [] word.data.toList e = allL l word.data.toList e := by
 unfold mgL
 by_cases hr : Go.Proofs.YtncnefpkfbngaaaGreatDoor.rightB word.data.toList e = true
 · rw [if_pos hr]
   have e1 : baseM (allL l word.data.toList e) (norm lessB []) word.data.toList e = allL l word.data.toList e := by
    show List.filter _ _ ++ [] = _
    rw [List.append_nil, List.filter_eq_self]
    intro m _
    simp [fOf, hasW, norm]
   rw [e1]
   refine insAll_same lessB_sto (Mq.SUp.up lessB_sto ?_)
   unfold allL
   rw [if_pos hr]
   exact near_sup hl _ _
 · rw [if_neg hr]
   unfold allL
   rw [if_neg hr]
theorem baseM_len (l : List Mq.Pr) (C : List Pr) (word : List UInt8) (e : Int) : (baseM l C word e).length ≤ l.length + C.length := by
 unfold baseM
 rw [List.length_append]
 have h1 := List.length_filter_le (fOf C) l
 have h2 := List.length_filterMap_le (mtch word e) C
 omega
theorem mgL_len (l : List Mq.Pr) (over : List Pr) (word : List UInt8) (e : Int) : (mgL l over word e).length ≤ l.length + over.length := by
 unfold mgL
 split
 · rw [insAll_len]
   have h1 := baseM_len l (norm lessB over) word e
   have h2 := norm_len over
   omega
 · exact Nat.zero_le _
end Mg
end Go.Proofs.YtncnefpkfbngaaaGreatDoor

/- fuzzy.Merge: changes are laid over matches. -/
namespace Go.Proofs.YtncnefpkfbngaaaGreatDoor
open Go.RowKit Go.Shelf Go.Lib Nums Fm Pk Pm Fz Ed Lv
set_option maxRecDepth 100000
namespace Mg
attribute [local go_sem ↓] Mq.exec_load_P Mq.exec_store_P exec_load_P exec_store_P
set_option maxHeartbeats 2000000 in
theorem Merge_yes (w : World) (ht : Tabs w) (u v : Value) (l : List M) (over : List Pr) (ws : ByteArray) (e : Int) (hu : MRow w u l) (hv : PRow w v over) (hs : Sm over) (hm : ws.size ≤ 9223372036854775807) (hl : l.length < 274877906944) (ho : over.length < 274877906944) (hr : Go.Proofs.YtncnefpkfbngaaaGreatDoor.rightB ws.data.toList e = true) :
 Calls Tryz.prog 6 #[u, v, .string ws, .int .i64 e] w fun x w' => ∃ v', x = .returned (.tuple #[v', .int .i64 0]) ∧ MOwn w.heap.size w' v' (insAll lessB (baseM l (norm lessB over) ws.data.toList e)) ∧ Below w.heap.size w w' := by
 obtain ⟨ad, cap, rfl⟩ := hu.form
 obtain ⟨bd, bap, rfl⟩ := hv.form
 have HNW : Hid (Calls Tryz.prog 13 #[.string ws, .int .i64 e] w fun x w' => ∃ p, x = .returned (.tuple #[.pointer (some ⟨p, 0, none⟩), .int .i64 0]) ∧ Below w.heap.size w w') := (New_any ws e w ht hm).mono (by
  rintro x w' ⟨v, c, rfl, hb, ⟨h, _⟩ | ⟨_, rfl, p, xs, d, rfl, _⟩⟩
  · rw [hr] at h; cases h
  · exact ⟨p, rfl, hb⟩)
 have HT : Hid (Tabs w) := ht
 obtain ⟨C, hC⟩ : ∃ C, norm lessB over = C := ⟨_, rfl⟩
 obtain ⟨m, hmn⟩ : ∃ m, C.length = m := ⟨_, rfl⟩
 have HCU : Hid (SUp lessB C) := by show SUp lessB C; rw [← hC]; exact norm_up lessB_sto over
 have HCS : Hid (Sm C) := by show Sm C; rw [← hC]; exact Sm.norm hs
 have hml : m < 274877906944 := by rw [← hmn, ← hC]; exact Nat.lt_of_le_of_lt (norm_len over) ho
 have HML : Hid (C.length = m) := hmn
 have HNO : Hid (∀ W, Below w.heap.size w W → Calls Tryz.prog 14 #[.slice bd over.length bap] W fun x w' => ∃ a c, x = .returned (.slice a m c) ∧ PRow w' (.slice a m c) C ∧ Below W.heap.size W w') := fun W hW => (Norm_any W _ over (hv.below hW) (by omega)).mono (by
  rintro x w' ⟨v', rfl, hown, hb⟩
  rw [hC] at hown
  obtain ⟨a, c, hsh⟩ := POwn.shape hown
  rw [hmn] at hsh
  subst hsh
  exact ⟨a, c, rfl, hown.row, hb⟩)
 obtain ⟨n, hn⟩ : ∃ n, l.length = n := ⟨_, rfl⟩
 have HN : Hid (l.length = n) := hn
 have HU : Hid (MRow w (.slice ad n cap) l) := by show MRow _ _ _; rw [← hn]; exact hu
 have HWS : Hid (ws.size ≤ 9223372036854775807) := hm
 rw [hC]
 rw [hn] at hl ⊢
 clear hu hv hs hm ho hr ht hC hmn hn
 go_enter Tryz.func6, Tryz.ntmps6
 go_wp2_with (first
  | (go_at_call 13; refine HNW.out.mono ?_; rintro x w1 ⟨p, rfl, hb1⟩; have HB1 : Hid (Below w.heap.size w w1) := hb1; clear hb1)
  | (go_at_call 14; refine (HNO.out _ HB1.out).mono ?_; rintro x w2 ⟨a, c, rfl, hrow2, hb2⟩; have HB2 : Hid (Below w.heap.size w w2) := HB1.out.trans (hb2.mono HB1.out.size); have HROW2 : Hid (PRow w2 (.slice a m c) C) := hrow2; clear hb2 hrow2))
 have HU2 : Hid (MRow w2 (.slice ad n cap) l) := HU.out.below HB2.out
 clear HU
 go_loopg [13, 15, 33] n (fun gm s13 s15 s33 wr => ∃ (k : Nat), s33 = .int .i64 k ∧ k ≤ n ∧ n - k ≤ gm ∧ Hid (MOwn w2.heap.size wr s13 ((l.take k).filter (fOf C))) ∧ Hid (Below w2.heap.size w2 wr))
 case atStart => exact ⟨0, rfl, Nat.zero_le _, by omega, GOwn.nil _ _ _ _, Below.refl _ _⟩
 case round =>
  obtain ⟨k, rfl, hk, hg, HO, HB⟩ := hrel
  obtain ⟨fd, fc, hsh⟩ := own_shape HO.out
  obtain ⟨fn, hfn⟩ : ∃ fn, ((l.take k).filter (fOf C)).length = fn := ⟨_, rfl⟩
  rw [hfn] at hsh
  subst hsh
  have HFN : Hid (fn ≤ k) := by
   show fn ≤ k
   rw [← hfn]
   exact Nat.le_trans (List.length_filter_le _ _) (List.length_take_le _ _)
  by_cases hlt : k < n
  · have hltz : (k : Int) < (n : Int) := by omega
    obtain ⟨x, hx⟩ : ∃ x, l[k]? = some x := ⟨l[k]'(by have := HN.out; omega), List.getElem?_eq_getElem _⟩
    obtain ⟨b, off, hbo, hb, hcell⟩ := mrow_at HU2.out (by have := HN.out; omega)
    subst hbo
    have hld := ((hcell k x hx).below hb HB.out).load
    obtain ⟨W, hst, hbW, h3, hlW⟩ := box_M wr x
    have HBW : Hid (Below w2.heap.size w2 W) := HB.out.trans (hbW.mono HB.out.size)
    have HOW : Hid (MOwn w2.heap.size W (.slice fd fn fc) ((l.take k).filter (fOf C))) := own_below HO.out hbW
    have HTW : Hid (∀ V, Below W.heap.size W V → ThreeAt V wr.heap.size 0 x) := fun V hV => h3.below hlW hV
    have hc0 := h3.c0
    have HCH : Hid (Calls Tryz.prog 15 #[.slice a m c, .string x.1] W fun e w' => e = .returned (.bool (hasW C x.1)) ∧ Below W.heap.size W w') := changed_any W _ C x.1 (HROW2.out.below HBW.out) HCU.out (by have := HML.out; omega)
    have HTK : Hid ((l.take (k + 1)).filter (fOf C) = (l.take k).filter (fOf C) ++ (if hasW C x.1 then [] else [x])) := keep_snoc C hx
    obtain ⟨hw, hhw⟩ : ∃ hw, hasW C x.1 = hw := ⟨_, rfl⟩
    rw [hhw] at HCH HTK
    clear hcell hx hbW h3 hhw
    cases hw
    · go_wp2_with (first
       | (go_at_call 15; refine HCH.out.mono ?_; rintro e w3 ⟨rfl, hb3⟩; have HB3 : Hid (Below w2.heap.size w2 w3) := HBW.out.trans (hb3.mono HBW.out.size); have HO3 : Hid (MOwn w2.heap.size w3 (.slice fd fn fc) ((l.take k).filter (fOf C))) := own_below HOW.out hb3; have hld3 := (HTW.out w3 hb3).load; clear hb3)
       | (at_builtin; refine append_g rtyM (by rfl) _ _ [.string x.1, .int .i64 x.2.1, .int .i64 x.2.2] _ rfl w2.heap.size _ _ _ _ rfl HO3.out rfl rfl (cells_three x) (by have := HFN.out; rw [List.length_map, hfn]; omega) HB3.out.size ?_))
      intro v4 w4 hr4 hb4 _
      have HO4 : Hid (MOwn w2.heap.size w4 v4 ((l.take (k + 1)).filter (fOf C))) := by
       show MOwn _ _ _ _
       rw [HTK.out]
       exact own_snoc hr4
      have HB4 : Hid (Below w2.heap.size w2 w4) := HB3.out.trans hb4
      clear hr4 hb4
      go_wp2_with fail
      go_roundg (n - (k + 1))
      case measure => omega
      case rel => exact ⟨k + 1, by go_num, by omega, Nat.le_refl _, HO4, HB4⟩
    · go_wp2_with (go_at_call 15; refine HCH.out.mono ?_; rintro e w3 ⟨rfl, hb3⟩; have HB3 : Hid (Below w2.heap.size w2 w3) := HBW.out.trans (hb3.mono HBW.out.size); have HO3 : Hid (MOwn w2.heap.size w3 (.slice fd fn fc) ((l.take k).filter (fOf C))) := own_below HOW.out hb3; clear hb3)
      go_roundg (n - (k + 1))
      case measure => omega
      case rel => exact ⟨k + 1, by go_num, by omega, Nat.le_refl _, by show MOwn _ _ _ _; rw [HTK.out]; simpa using HO3.out, HB3⟩
  · have hltz : ¬ (k : Int) < (n : Int) := by omega
    have HE : Hid (l.take k = l) := List.take_of_length_le (by have := HN.out; omega)
    rw [HE.out] at HO hfn
    have hfz : fn < 274877906944 := by have := HFN.out; omega
    have HFL : Hid ((l.filter (fOf C)).length = fn) := hfn
    have HMW : Hid (PRow wr (.slice a m c) C) := HROW2.out.below HB.out
    clear HE hfn HFN hk hg
    obtain ⟨wo, hwo⟩ : ∃ wo, wo = wr := ⟨_, rfl⟩
    subst hwo
    go_wp2_with fail
    go_loopg [13, 17, 18, 19, 49] m (fun gm s13 s17 s18 s19 s49 wr => ∃ (j : Nat), s49 = .int .i64 j ∧ j ≤ m ∧ m - j ≤ gm ∧ Hid (MOwn w2.heap.size wr s13 ((l.filter (fOf C)) ++ (C.take j).filterMap (mtch ws.data.toList e))) ∧ Hid (Below w2.heap.size w2 wr))
    case atStart => exact ⟨0, rfl, Nat.zero_le _, by omega, by show MOwn _ _ _ _; simpa using HO.out, HB⟩
    case round =>
     obtain ⟨j, hs49, hj, hg, HO2, HBq⟩ := hrel
     subst hs49
     obtain ⟨gd, gc, hsh⟩ := own_shape HO2.out
     obtain ⟨gn, hgn⟩ : ∃ gn, ((l.filter (fOf C)) ++ (C.take j).filterMap (mtch ws.data.toList e)).length = gn := ⟨_, rfl⟩
     rw [hgn] at hsh
     subst hsh
     have HGN : Hid (gn ≤ fn + j ∧ ((l.filter (fOf C)) ++ (C.take j).filterMap (mtch ws.data.toList e)).length = gn) := by
      refine ⟨?_, hgn⟩
      rw [← hgn, List.length_append, HFL.out]
      have h1 := List.length_filterMap_le (mtch ws.data.toList e) (C.take j)
      have h2 : (C.take j).length ≤ j := List.length_take_le _ _
      omega
     clear hgn
     by_cases hlt : j < m
     · have hltz : (j : Int) < (m : Int) := by omega
       obtain ⟨p, hp⟩ : ∃ p, C[j]? = some p := ⟨C[j]'(by have := HML.out; omega), List.getElem?_eq_getElem _⟩
       obtain ⟨b, off, hbo, hb, hcell⟩ := HROW2.out.at (by omega)
       subst hbo
       have hld := two_load ((hcell j p hp).below hb HBq.out)
       obtain ⟨W, hst, hbW, h2, hlW⟩ := box_P wr p
       have HBW : Hid (Below w2.heap.size w2 W) := HBq.out.trans (hbW.mono HBq.out.size)
       have HOW : Hid (MOwn w2.heap.size W (.slice gd gn gc) (l.filter (fOf C) ++ (C.take j).filterMap (mtch ws.data.toList e))) := own_below HO2.out hbW
       have hld2 := two_load h2
       have HMA : Calls Tryz.prog 16 #[.agg #[.string p.1, .int .i64 p.2], .string ws, .int .i64 e] W fun x w' => MaSays W w' (mtch ws.data.toList e p) x := match_any p ws _ rfl e W (HT.out.below (HB2.out.trans (HBW.out.mono HB2.out.size))) (HCS.out p (List.mem_of_getElem? hp)) HWS.out
       have HTK : Hid ((C.take (j + 1)).filterMap (mtch ws.data.toList e) = (C.take j).filterMap (mtch ws.data.toList e) ++ (mtch ws.data.toList e p).toList) := put_snoc hp
       clear hcell hp hbW h2
       cases hmt : mtch ws.data.toList e p with
       | none =>
        rw [hmt] at HMA HTK
        have HMA : Hid (Calls Tryz.prog 16 #[.agg #[.string p.1, .int .i64 p.2], .string ws, .int .i64 e] W fun x w' => (∃ m0, x = .returned (.tuple #[Mq.valP m0, .bool false])) ∧ Below W.heap.size W w') := HMA.mono (by
         rintro x w' ⟨hb, ⟨_, m0, rfl⟩ | ⟨m0, h, _⟩⟩
         · exact ⟨⟨m0, rfl⟩, hb⟩
         · cases h)
        clear hmt
        go_wp2_with (go_at_call 16; refine HMA.out.mono ?_; rintro x w3 ⟨⟨m0, rfl⟩, hb3⟩; obtain ⟨W4, hst4, hb4, h4, hl4⟩ := box_M w3 m0; have hst5 : Mq.storeP Tryz.prog (.pointer (some ⟨w3.heap.size, 0, none⟩)) (Mq.valP m0) (w3.alloc (.cells #[.string ⟨#[]⟩, .int .i64 0, .int .i64 0] 44)) = .ok () W4 := hst4; have HB4 : Hid (Below w2.heap.size w2 W4) := HBW.out.trans ((hb3.trans (hb4.mono hb3.size)).mono HBW.out.size); have HO4 : Hid (MOwn w2.heap.size W4 (.slice gd gn gc) (l.filter (fOf C) ++ (C.take j).filterMap (mtch ws.data.toList e))) := own_below HOW.out (hb3.trans (hb4.mono hb3.size)); clear hb3 hb4 h4 hl4 hst4)
        go_roundg (m - (j + 1))
        case measure => omega
        case rel => exact ⟨j + 1, by go_num, by omega, Nat.le_refl _, by show MOwn _ _ _ _; rw [HTK.out]; simpa using HO4.out, HB4⟩
       | some m1 =>
        rw [hmt] at HMA HTK
        have HMA : Hid (Calls Tryz.prog 16 #[.agg #[.string p.1, .int .i64 p.2], .string ws, .int .i64 e] W fun x w' => x = .returned (.tuple #[Mq.valP m1, .bool true]) ∧ Below W.heap.size W w') := HMA.mono (by
         rintro x w' ⟨hb, ⟨h, _⟩ | ⟨m0, h, rfl⟩⟩
         · cases h
         · cases h; exact ⟨rfl, hb⟩)
        clear hmt
        go_wp2_with (first
         | (go_at_call 16; refine HMA.out.mono ?_; rintro x w3 ⟨rfl, hb3⟩; obtain ⟨W4, hst4, hb4, h4, hl4⟩ := box_M w3 m1; have hst5 : Mq.storeP Tryz.prog (.pointer (some ⟨w3.heap.size, 0, none⟩)) (Mq.valP m1) (w3.alloc (.cells #[.string ⟨#[]⟩, .int .i64 0, .int .i64 0] 44)) = .ok () W4 := hst4; have HB4 : Hid (Below w2.heap.size w2 W4) := HBW.out.trans ((hb3.trans (hb4.mono hb3.size)).mono HBW.out.size); have HO4 : Hid (MOwn w2.heap.size W4 (.slice gd gn gc) (l.filter (fOf C) ++ (C.take j).filterMap (mtch ws.data.toList e))) := own_below HOW.out (hb3.trans (hb4.mono hb3.size)); have hld4 := h4.load; clear hb3 hb4 h4 hl4 hst4)
         | (at_builtin; refine append_g rtyM (by rfl) _ _ [.string m1.1, .int .i64 m1.2.1, .int .i64 m1.2.2] _ rfl w2.heap.size _ _ _ _ rfl HO4.out rfl rfl (cells_three m1) (by have := HGN.out; rw [List.length_map, this.2]; omega) HB4.out.size ?_))
        intro v5 w5 hr5 hb5 _
        have HO5 : Hid (MOwn w2.heap.size w5 v5 (l.filter (fOf C) ++ (C.take (j + 1)).filterMap (mtch ws.data.toList e))) := by
         show MOwn _ _ _ _
         rw [HTK.out, ← List.append_assoc]
         refine own_snoc ?_
         rw [List.map_append, List.append_assoc]
         exact hr5
        have HB5 : Hid (Below w2.heap.size w2 w5) := HB4.out.trans hb5
        clear hr5 hb5
        go_wp2_with fail
        go_roundg (m - (j + 1))
        case measure => omega
        case rel => exact ⟨j + 1, by go_num, by omega, Nat.le_refl _, HO5, HB5⟩
     · have hltz : ¬ (j : Int) < (m : Int) := by omega
       have HE : Hid (C.take j = C) := List.take_of_length_le (by have := HML.out; omega)
       rw [HE.out] at HO2 HGN
       have HSO : Hid (Calls Tryz.prog 17 #[.slice gd gn gc, .func (.func 18) #[] #[]] wr fun x w' => x = .returned (.tuple #[]) ∧ MOwn w2.heap.size w' (.slice gd gn gc) (insAll lessB (baseM l C ws.data.toList e)) ∧ Below w2.heap.size wr w') := sortM_own (l := baseM l C ws.data.toList e) HO2.out (by have := HGN.out; show (l.filter (fOf C) ++ C.filterMap (mtch ws.data.toList e)).length < _; rw [this.2]; omega) HBq.out.size
       clear HE HGN HO2 hj hg
       go_wp2_with (go_at_call 17; refine HSO.out.mono ?_; rintro x w6 ⟨rfl, ho6, hb6⟩)
       go_ret2
       exact ⟨_, rfl, own_mono ho6 HB2.out.size, HB2.out.trans ((HBq.out.trans hb6).mono HB2.out.size)⟩
end Mg
end Go.Proofs.YtncnefpkfbngaaaGreatDoor

/- fuzzy.Merge, as a law asks it. -/
namespace Go.Proofs.YtncnefpkfbngaaaGreatDoor
open Go.RowKit Go.Shelf Go.Lib Nums Fm Pk Pm Fz Ed Lv
set_option maxRecDepth 100000
namespace Mg
theorem told_yes {w w' : World} {l : List M} {over : List Pr} {word : List UInt8} {e : Int} {x : Ending} (hr : Go.Proofs.YtncnefpkfbngaaaGreatDoor.rightB word e = true) (h : ∃ v', x = .returned (.tuple #[v', .int .i64 0]) ∧ MOwn w.heap.size w' v' (insAll lessB (baseM l (norm lessB over) word e)) ∧ Below w.heap.size w w') :
 ∃ ad cap, x = .returned (.tuple #[.slice ad (mgL l over word e).length cap, .int .i64 (allC word e)]) ∧ MRow w' (.slice ad (mgL l over word e).length cap) (mgL l over word e) ∧ Below w.heap.size w w' := by
 obtain ⟨v', rfl, h1, h2⟩ := h
 have e1 : mgL l over word e = insAll lessB (baseM l (norm lessB over) word e) := by unfold mgL; rw [if_pos hr]
 have e2 : allC word e = 0 := by unfold allC; rw [if_pos hr]
 rw [← e1] at h1
 obtain ⟨ad, cap, rfl⟩ := own_shape h1
 exact ⟨ad, cap, by rw [e2], own_row h1, h2⟩
theorem told_no {w w' : World} {l : List M} {over : List Pr} {word : List UInt8} {e : Int} {x : Ending} (hr : ¬ Go.Proofs.YtncnefpkfbngaaaGreatDoor.rightB word e = true) (h : x = .returned (.tuple #[.slice none 0 0, .int .i64 110]) ∧ Below w.heap.size w w') :
 ∃ ad cap, x = .returned (.tuple #[.slice ad (mgL l over word e).length cap, .int .i64 (allC word e)]) ∧ MRow w' (.slice ad (mgL l over word e).length cap) (mgL l over word e) ∧ Below w.heap.size w w' := by
 obtain ⟨rfl, h2⟩ := h
 have e1 : mgL l over word e = [] := by unfold mgL; rw [if_neg hr]
 have e2 : allC word e = 110 := by unfold allC; rw [if_neg hr]
 rw [e1]
 exact ⟨none, 0, by rw [e2]; rfl, own_row (B := 0) (GOwn.nil _ _ _ _), h2⟩
set_option maxHeartbeats 1000000 in
theorem Merge_no (w : World) (ht : Tabs w) (u v : Value) (l : List M) (over : List Pr) (ws : ByteArray) (e : Int) (hu : MRow w u l) (hv : PRow w v over) (hm : ws.size ≤ 9223372036854775807) (hr : ¬ Go.Proofs.YtncnefpkfbngaaaGreatDoor.rightB ws.data.toList e = true) :
 Calls Tryz.prog 6 #[u, v, .string ws, .int .i64 e] w fun x w' => x = .returned (.tuple #[.slice none 0 0, .int .i64 110]) ∧ Below w.heap.size w w' := by
 obtain ⟨ad, cap, rfl⟩ := hu.form
 obtain ⟨bd, bap, rfl⟩ := hv.form
 have HNW : Hid (Calls Tryz.prog 13 #[.string ws, .int .i64 e] w fun x w' => x = .returned (.tuple #[.pointer none, .int .i64 110]) ∧ Below w.heap.size w w') := (New_any ws e w ht hm).mono (by
  rintro x w' ⟨v, c, rfl, hb, ⟨_, rfl, rfl⟩ | ⟨h, _⟩⟩
  · exact ⟨rfl, hb⟩
  · exact absurd h hr)
 clear hu hv hm hr ht
 go_enter Tryz.func6, Tryz.ntmps6
 go_wp2_with (go_at_call 13; refine HNW.out.mono ?_; rintro x w1 ⟨rfl, hb1⟩; have HB1 : Hid (Below w.heap.size w w1) := hb1; clear hb1)
 go_ret2
 exact ⟨rfl, HB1.out⟩
theorem Merge_told (w : World) (ht : Tabs w) (u v : Value) (l : List M) (over : List Pr) (ws : ByteArray) (e : Int) (hu : MRow w u l) (hv : PRow w v over) (hs : Sm over) (hm : ws.size ≤ 9223372036854775807) (hl : l.length < 274877906944) (ho : over.length < 274877906944) :
 Calls Tryz.prog 6 #[u, v, .string ws, .int .i64 e] w fun x w' => ∃ ad cap, x = .returned (.tuple #[.slice ad (mgL l over ws.data.toList e).length cap, .int .i64 (allC ws.data.toList e)]) ∧ MRow w' (.slice ad (mgL l over ws.data.toList e).length cap) (mgL l over ws.data.toList e) ∧ Below w.heap.size w w' := by
 by_cases hr : Go.Proofs.YtncnefpkfbngaaaGreatDoor.rightB ws.data.toList e = true
 · exact (Merge_yes w ht u v l over ws e hu hv hs hm hl ho hr).mono fun x w' h => told_yes hr h
 · exact (Merge_no w ht u v l over ws e hu hv hm hr).mono fun x w' h => told_no hr h
end Mg
end Go.Proofs.YtncnefpkfbngaaaGreatDoor
