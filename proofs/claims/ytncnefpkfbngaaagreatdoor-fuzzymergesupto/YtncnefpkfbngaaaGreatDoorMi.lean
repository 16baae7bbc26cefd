/- Texts that were written apart, joined. -/
import Derived.Test.YtncnefpkfbngaaaGreatDoorMh
import Derived.Test.YtncnefpkfbngaaaGreatDoorGb
import Derived.Deep.Cut
import Derived.Test.YtncnefpkfbngaaaGreatDoorMtsIn
import Derived.Deep.DrawnRows
/- The reference's put of matches. -/
namespace Go.Proofs.YtncnefpkfbngaaaGreatDoor
open Go.RowKit Go.Shelf Go.Lib Nums Fm Pk Pm Fz Ed Lv
set_option maxRecDepth 100000
namespace Mg
/-- What put has made of the first k matches. -/
structure PutM (l : List M) (m : M) (k : Nat) (done : Bool) (acc : List M) : Prop where
 len : acc.length = k + (if done then 1 else 0)
 eq : acc ++ insP lessB m done (l.drop k) = ins lessB m l
theorem PutM.start (l : List M) (m : M) : PutM l m 0 false [] := ⟨by simp, by simp [insP]⟩
theorem PutM.step {l : List M} {m : M} {k : Nat} {done : Bool} {acc : List M} (h : PutM l m k done acc) {x : M} (hx : l[k]? = some x) :
 PutM l m (k + 1) (done || lessB m.1 x.1) (acc ++ (if !done && lessB m.1 x.1 then [m] else []) ++ [x]) := by
 refine ⟨?_, by rw [← h.eq, drop_snoc hx, insP_step]⟩
 have := h.len
 cases done <;> cases lessB m.1 x.1 <;> simp at this ⊢ <;> omega
theorem PutM.fin {l : List M} {m : M} {k : Nat} {done : Bool} {acc : List M} (h : PutM l m k done acc) (hk : l.length ≤ k) : acc ++ (if done then [] else [m]) = ins lessB m l := by
 rw [← h.eq, List.drop_eq_nil_of_le hk]
 cases done <;> rfl
set_option maxHeartbeats 4000000 in
theorem refPut_any (w : World) (v : Value) (l : List M) (p : M) (h : MRow w v l) (hl : l.length < 549755813888) (hsm : ∀ x ∈ l, x.1.size ≤ 9223372036854775807) (hps : p.1.size ≤ 9223372036854775807) :
 Calls Tryz.prog 22 #[v, .agg #[.string p.1, .int .i64 p.2.1, .int .i64 p.2.2]] w fun e w' => ∃ v', e = .returned v' ∧ MOwn w.heap.size w' v' (ins lessB p l) ∧ Below w.heap.size w w' := by
 obtain ⟨ad, cap, rfl⟩ := h.form
 have HR : Hid (MRow w (.slice ad l.length cap) l) := h
 obtain ⟨n, hn⟩ : ∃ n, l.length = n := ⟨_, rfl⟩
 have HN : Hid (l.length = n) := hn
 have HS : Hid (∀ x ∈ l, x.1.size ≤ 9223372036854775807) := hsm
 have HPS : Hid (p.1.size ≤ 9223372036854775807) := hps
 rw [hn] at HR hl
 clear h hsm hps
 rw [hn]
 clear hn
 go_enter Tryz.func22, Tryz.ntmps22
 go_wp2
 obtain ⟨w1, hw1⟩ : ∃ w1, w1 = w.alloc (.cells #[.string p.1, .int .i64 p.2.1, .int .i64 p.2.2] 44) := ⟨_, rfl⟩
 rw [← hw1]
 have HW1 : Hid (Below w.heap.size w w1) := by show Below _ _ _; rw [hw1]; exact (Below.refl _ w).alloc (Nat.le_refl _) _
 have HTP : Hid (ThreeAt w1 w.heap.size 0 p) := by show ThreeAt _ _ _ _; rw [hw1]; exact ThreeAt.new w p _
 have HR1 : Hid (MRow w1 (.slice ad n cap) l) := HR.out.below HW1.out
 have hbp : w.heap.size < w1.heap.size := by rw [hw1]; simp
 have HFR : Hid (∀ W v' m, MOwn w1.heap.size W v' m → Below w1.heap.size w1 W → MOwn w.heap.size W v' m ∧ Below w.heap.size w W) := fun W v' m h1 h2 => ⟨own_mono h1 (by omega), HW1.out.trans (h2.mono (by omega))⟩
 clear hw1 HR HW1
 generalize hbe : w.heap.size = bp at hbp HTP HFR
 have HBE : Hid (w.heap.size = bp) := hbe
 clear hbe
 go_loopg [5, 6, 7] n (fun g s5 s6 s7 wr => ∃ (k : Nat) (done : Bool) (acc : List M), s6 = .bool done ∧ s7 = .int .i64 k ∧ k ≤ n ∧ n - k ≤ g ∧ Hid (PutM l p k done acc) ∧ Hid (MOwn w1.heap.size wr s5 acc) ∧ Hid (Below w1.heap.size w1 wr))
 case atStart => exact ⟨0, false, [], rfl, rfl, Nat.zero_le _, by omega, PutM.start l p, GOwn.nil _ _ _ _, Below.refl _ _⟩
 case round =>
  obtain ⟨k, done, acc, rfl, rfl, hk, hg, HP, HO, HB⟩ := hrel
  by_cases hlt : k < n
  · have hltz : (k : Int) < (n : Int) := by omega
    obtain ⟨x, hx⟩ : ∃ x, l[k]? = some x := ⟨l[k]'(by have := HN.out; omega), List.getElem?_eq_getElem _⟩
    obtain ⟨b, off, rfl, hb, hcell⟩ := mrow_at HR1.out (by have := HN.out; omega)
    have HX : Hid (l[k]? = some x) := hx
    have HT : Hid (∀ W, Below w1.heap.size w1 W → ThreeAt W b (off + k * 3) x ∧ ThreeAt W bp 0 p) := fun W hW => ⟨(hcell k x hx).below hb hW, HTP.out.below hbp hW⟩
    have hls := fun W => ahead_any p.1 x.1 W HPS.out (HS.out x (List.mem_of_getElem? hx))
    obtain ⟨⟨c0, c1, c2⟩, ⟨d0, d1, d2⟩⟩ := HT.out wr HB.out
    rw [Nat.zero_add] at d1 d2
    have HLZ0 : Hid (acc.length ≤ k + 1) := by have := HP.out.len; show _ ≤ _; cases done <;> simp at this <;> omega
    clear hcell hx
    cases done
    · cases hlx : lessB p.1 x.1
      · have HST : Hid (PutM l p (k + 1) false (acc ++ [x])) := by
         have h := HP.out.step HX.out
         rw [hlx] at h
         show PutM _ _ _ _ _
         simpa using h
        rw [hlx] at hls
        clear hlx
        go_wp2_with fail
        go_quiet (first | (go_at_call 41; refine Calls.quiet_of (hls _)))
        obtain ⟨accz, hac⟩ : ∃ accz, accz = acc := ⟨_, rfl⟩
        obtain ⟨uz, huz⟩ : ∃ uz, uz = u5 := ⟨_, rfl⟩
        obtain ⟨dz, hdz⟩ : ∃ dz, dz = false := ⟨_, rfl⟩
        rw [← hac, ← hdz] at HST
        rw [← hac, ← huz] at HO
        rw [← huz]
        have HDZ : Hid (dz = false) := hdz
        have HLZ : Hid ((accz.map cellsM).length < 1099511627776) := by have := HLZ0.out; show _ < _; rw [hac, List.length_map]; omega
        clear hac hdz huz
        obtain ⟨wz, hwz⟩ : ∃ wz, wz = wr.drewN nq := ⟨_, rfl⟩
        rw [← hwz]
        have HOz : Hid (MOwn w1.heap.size wz uz accz) := by show MOwn _ _ _ _; rw [hwz]; exact own_below HO.out (belowN (Below.refl _ wr) nq)
        have HBz : Hid (Below w1.heap.size w1 wz) := by show Below _ _ _; rw [hwz]; exact belowN HB.out nq
        obtain ⟨⟨z0, z1, z2⟩, ⟨y0, y1, y2⟩⟩ := HT.out wz HBz.out
        rw [Nat.zero_add] at y1 y2
        clear hwz c0 c1 c2 d0 d1 d2
        go_wp2_with (at_builtin; refine append_g rtyM (by rfl) _ _ [.string x.1, .int .i64 x.2.1, .int .i64 x.2.2] _ rfl w1.heap.size _ _ _ (accz.map cellsM) rfl HOz.out rfl rfl (cells_three x) HLZ.out HBz.out.size ?_)
        intro v4 w4 hr4 hb4 _
        have HOy : Hid (MOwn w1.heap.size w4 v4 (accz ++ [x])) := own_snoc hr4
        have HBy : Hid (Below w1.heap.size w1 w4) := HBz.out.trans hb4
        clear hr4 hb4
        go_wp2_with fail
        go_roundg (n - (k + 1))
        case measure => omega
        case rel => exact ⟨k + 1, dz, accz ++ [x], by rw [HDZ.out], by go_num, by omega, Nat.le_refl _, HST, HOy, HBy⟩
      · have HST : Hid (PutM l p (k + 1) true (acc ++ [p] ++ [x])) := by
         have h := HP.out.step HX.out
         rw [hlx] at h
         show PutM _ _ _ _ _
         simpa using h
        rw [hlx] at hls
        clear hlx
        go_wp2_with fail
        go_quiet (first | (go_at_call 41; refine Calls.quiet_of (hls _)))
        have HOq : Hid (MOwn w1.heap.size (wr.drewN nq) u5 acc) := own_below HO.out (belowN (Below.refl _ wr) nq)
        have hWn : (wr.drewN nq).heap.size = wr.heap.size := rfl
        have HBq : Hid (Below w1.heap.size w1 (wr.drewN nq)) := belowN HB.out nq
        go_wp2_with (at_builtin; refine append_g rtyM (by rfl) _ _ [.string p.1, .int .i64 p.2.1, .int .i64 p.2.2] _ rfl w1.heap.size _ _ _ (acc.map cellsM) rfl HOq.out rfl hWn.symm (cells_three p) (by have := HLZ0.out; rw [List.length_map]; omega) HBq.out.size ?_)
        intro uz wz hr2 hb2 _
        obtain ⟨accz, hac⟩ : ∃ accz, accz = acc ++ [p] := ⟨_, rfl⟩
        have HOz : Hid (MOwn w1.heap.size wz uz accz) := by show MOwn _ _ _ _; rw [hac]; exact own_snoc hr2
        have HBz : Hid (Below w1.heap.size w1 wz) := HBq.out.trans hb2
        have HLZ : Hid ((accz.map cellsM).length < 1099511627776) := by have := HLZ0.out; show _ < _; rw [hac, List.length_map, List.length_append]; simp; omega
        rw [← hac] at HST
        obtain ⟨⟨z0, z1, z2⟩, ⟨y0, y1, y2⟩⟩ := HT.out wz HBz.out
        rw [Nat.zero_add] at y1 y2
        obtain ⟨dz, hdz⟩ : ∃ dz, dz = true := ⟨_, rfl⟩
        rw [← hdz] at HST
        have HDZ : Hid (dz = true) := hdz
        clear hr2 hb2 hac HOq HBq hWn c0 c1 c2 d0 d1 d2 hdz
        go_wp2_with (at_builtin; refine append_g rtyM (by rfl) _ _ [.string x.1, .int .i64 x.2.1, .int .i64 x.2.2] _ rfl w1.heap.size _ _ _ (accz.map cellsM) rfl HOz.out rfl rfl (cells_three x) HLZ.out HBz.out.size ?_)
        intro v4 w4 hr4 hb4 _
        have HOy : Hid (MOwn w1.heap.size w4 v4 (accz ++ [x])) := own_snoc hr4
        have HBy : Hid (Below w1.heap.size w1 w4) := HBz.out.trans hb4
        clear hr4 hb4
        go_wp2_with fail
        go_roundg (n - (k + 1))
        case measure => omega
        case rel => exact ⟨k + 1, dz, accz ++ [x], by rw [HDZ.out], by go_num, by omega, Nat.le_refl _, HST, HOy, HBy⟩
    · have HST : Hid (PutM l p (k + 1) true (acc ++ [x])) := by
       have h := HP.out.step HX.out
       show PutM _ _ _ _ _
       simpa using h
      go_wp2_with fail
      go_quiet (fail)
      obtain ⟨accz, hac⟩ : ∃ accz, accz = acc := ⟨_, rfl⟩
      obtain ⟨uz, huz⟩ : ∃ uz, uz = u5 := ⟨_, rfl⟩
      obtain ⟨dz, hdz⟩ : ∃ dz, dz = true := ⟨_, rfl⟩
      rw [← hac, ← hdz] at HST
      rw [← hac, ← huz] at HO
      rw [← huz]
      have HDZ : Hid (dz = true) := hdz
      have HLZ : Hid ((accz.map cellsM).length < 1099511627776) := by have := HLZ0.out; show _ < _; rw [hac, List.length_map]; omega
      clear hac hdz huz
      obtain ⟨wz, hwz⟩ : ∃ wz, wz = wr.drewN nq := ⟨_, rfl⟩
      rw [← hwz]
      have HOz : Hid (MOwn w1.heap.size wz uz accz) := by show MOwn _ _ _ _; rw [hwz]; exact own_below HO.out (belowN (Below.refl _ wr) nq)
      have HBz : Hid (Below w1.heap.size w1 wz) := by show Below _ _ _; rw [hwz]; exact belowN HB.out nq
      obtain ⟨⟨z0, z1, z2⟩, ⟨y0, y1, y2⟩⟩ := HT.out wz HBz.out
      rw [Nat.zero_add] at y1 y2
      clear hwz c0 c1 c2 d0 d1 d2
      go_wp2_with (at_builtin; refine append_g rtyM (by rfl) _ _ [.string x.1, .int .i64 x.2.1, .int .i64 x.2.2] _ rfl w1.heap.size _ _ _ (accz.map cellsM) rfl HOz.out rfl rfl (cells_three x) HLZ.out HBz.out.size ?_)
      intro v4 w4 hr4 hb4 _
      have HOy : Hid (MOwn w1.heap.size w4 v4 (accz ++ [x])) := own_snoc hr4
      have HBy : Hid (Below w1.heap.size w1 w4) := HBz.out.trans hb4
      clear hr4 hb4
      go_wp2_with fail
      go_roundg (n - (k + 1))
      case measure => omega
      case rel => exact ⟨k + 1, dz, accz ++ [x], by rw [HDZ.out], by go_num, by omega, Nat.le_refl _, HST, HOy, HBy⟩
  · have hltz : ¬ (k : Int) < (n : Int) := by omega
    cases done
    · have HF : Hid (acc ++ [p] = ins lessB p l) := by show _ = _; have := HP.out.fin (by have := HN.out; omega); simpa using this
      obtain ⟨d0, d1, d2⟩ := HTP.out.below hbp HB.out
      rw [Nat.zero_add] at d1 d2
      have HL0 : Hid ((acc.map cellsM).length < 1099511627776) := by have := HP.out.len; show _ < _; rw [List.length_map]; simp at this; omega
      go_wp2_with (at_builtin; refine append_g rtyM (by rfl) _ _ [.string p.1, .int .i64 p.2.1, .int .i64 p.2.2] _ rfl w1.heap.size _ _ _ (acc.map cellsM) rfl HO.out rfl rfl (cells_three p) HL0.out HB.out.size ?_)
      intro v2 w2 hr2 hb2 _
      go_wp2_with fail
      go_ret
      obtain ⟨r1, r2⟩ := HFR.out _ _ _ (own_snoc hr2) (HB.out.trans hb2)
      rw [HBE.out]
      refine ⟨_, rfl, ?_, r2⟩
      rw [← HF.out]
      exact r1
    · have HF : Hid (acc = ins lessB p l) := by show _ = _; have := HP.out.fin (by have := HN.out; omega); simpa using this
      go_wp2
      go_ret
      obtain ⟨r1, r2⟩ := HFR.out _ _ _ HO.out HB.out
      rw [HBE.out]
      refine ⟨_, rfl, ?_, r2⟩
      rw [← HF.out]
      exact r1
end Mg
end Go.Proofs.YtncnefpkfbngaaaGreatDoor

/- The reference's Merge. -/
namespace Go.Proofs.YtncnefpkfbngaaaGreatDoor
open Go.RowKit Go.Shelf Go.Lib Nums Fm Pk Pm Fz Ed Lv
set_option maxRecDepth 100000
namespace Mg
theorem has_over (over : List Pr) (k : ByteArray) : (Pm.find over k).isSome = hasW (norm lessB over) k := by
 rw [hasW_find (norm_up lessB_sto over), norm_find lessB_sto]
theorem mtch_of {word : List UInt8} {e : Int} {p : Pr} : mtch word e p = if 0 < p.2 ∧ wordB p.1.data.toList = true ∧ dF (dsE p.1.data.toList word) = true ∧ dN (dsE p.1.data.toList word) ≤ e then some (p.1, p.2, dN (dsE p.1.data.toList word)) else none := by
 unfold mtch
 by_cases h0 : p.2 ≤ 0
 · rw [if_pos (.inl h0), if_neg (fun h => by omega)]
 · cases hw : wordB p.1.data.toList
   · rw [if_pos (.inr rfl), if_neg (fun h => by simp at h)]
   · rw [if_neg (by rintro (h | h); exact h0 h; cases h)]
     cases hd : dsE p.1.data.toList word with
     | none => rw [if_neg (fun h => by simp [dF] at h)]
     | some d =>
      simp only [dF, dN]
      by_cases hde : (d : Int) ≤ e
      · rw [if_pos hde, if_pos ⟨by omega, by trivial, by trivial, hde⟩]
      · rw [if_neg hde, if_neg (fun h => hde h.2.2.2)]
def STP (g o : Nat) (x : Pr) (W : World) : Prop := TwoAt W g o x
theorem STP.facts {g o : Nat} {x : Pr} {W : World} (h : STP g o x W) : W.cell? ⟨g, o, none⟩ = some (.string x.1) ∧ W.cell? ⟨g, o + 1, none⟩ = some (.int .i64 x.2) := ⟨h.c0, h.c1⟩
attribute [local go_sem ↓] Mq.exec_load_P
set_option maxHeartbeats 2000000 in
theorem refMerge_yes (w : World) (u v : Value) (l : List M) (over : List Pr) (ws : ByteArray) (e : Int) (hu : MRow w u l) (hus : ∀ x ∈ l, SmM x) (hv : PRow w v over) (hs : Sm over) (hbig : ∀ x ∈ over, x.1.size ≤ 1048576) (hm : ws.size ≤ 1048576) (hl : l.length < 137438953472) (ho : over.length < 137438953472) (hr : Go.Proofs.YtncnefpkfbngaaaGreatDoor.rightB ws.data.toList e = true) :
 Calls Tryz.prog 7 #[u, v, .string ws, .int .i64 e] w fun x w' => ∃ v', x = .returned (.tuple #[v', .int .i64 0]) ∧ MOwn w.heap.size w' v' (insAll lessB (baseM l (norm lessB over) ws.data.toList e)) ∧ Below w.heap.size w w' := by
 obtain ⟨ad, cap, rfl⟩ := hu.form
 obtain ⟨bd, bap, rfl⟩ := hv.form
 have HRI : Hid (Calls Tryz.prog 20 #[.string ws, .int .i64 e] w fun x w' => x = .returned (.bool true) ∧ Below w.heap.size w w') := by
  have := LRight_any ws e w (by omega)
  rw [hr] at this
  exact this
 obtain ⟨C, hC⟩ : ∃ C, norm lessB over = C := ⟨_, rfl⟩
 obtain ⟨m, hmn⟩ : ∃ m, C.length = m := ⟨_, rfl⟩
 have HCM : Hid (∀ x ∈ C, x.1.size ≤ 1048576) := by show ∀ x ∈ C, _; rw [← hC]; exact fun x hx => hbig x (norm_mem hx)
 have hml : m < 137438953472 := by rw [← hmn, ← hC]; exact Nat.lt_of_le_of_lt (norm_len over) ho
 have HML : Hid (C.length = m) := hmn
 have HNO : Hid (∀ W, Below w.heap.size w W → Calls Tryz.prog 23 #[.slice bd over.length bap] W fun x w' => ∃ a c, x = .returned (.slice a m c) ∧ PRow w' (.slice a m c) C ∧ Below W.heap.size W w') := fun W hW => (refNorm_any W _ over (hv.below hW) (by omega) hs).mono (by
  rintro x w' ⟨v', rfl, hown, hb⟩
  rw [hC] at hown
  obtain ⟨a, c, hsh⟩ := POwn.shape hown
  rw [hmn] at hsh
  subst hsh
  exact ⟨a, c, rfl, hown.row, hb⟩)
 have HFI : Hid (∀ W s, Below w.heap.size w W → Calls Tryz.prog 21 #[.slice bd over.length bap, .string s] W fun x w' => (∃ q, x = .returned (.tuple #[.int .i64 q, .bool (hasW C s)])) ∧ w' = W) := fun W s hW => (refFind_any W _ over s (hv.below hW) (by omega)).mono (by
  rintro x w' ⟨rfl, rfl⟩
  exact ⟨⟨_, by rw [has_over, hC]⟩, rfl⟩)
 obtain ⟨n, hn⟩ : ∃ n, l.length = n := ⟨_, rfl⟩
 have HN : Hid (l.length = n) := hn
 have HU : Hid (MRow w (.slice ad n cap) l) := by show MRow _ _ _; rw [← hn]; exact hu
 have HUS : Hid (∀ x ∈ l, SmM x) := hus
 have HWS : Hid (ws.size ≤ 1048576) := hm
 rw [hC]
 rw [hn] at hl ⊢
 obtain ⟨on, hon⟩ : ∃ on, over.length = on := ⟨_, rfl⟩
 rw [hon] at HNO HFI ⊢
 clear hu hus hv hs hm ho hr hC hmn hn hbig hon
 go_enter Tryz.func7, Tryz.ntmps7
 go_wp2_with (go_at_call 20; refine HRI.out.mono ?_; rintro x w1 ⟨rfl, hb1⟩; have HB1 : Hid (Below w.heap.size w w1) := hb1; clear hb1)
 have HU1 : Hid (MRow w1 (.slice ad n cap) l) := HU.out.below HB1.out
 clear HU
 go_loopg [10, 11, 12, 13] n (fun gm s10 s11 s12 s13 wr => ∃ (k : Nat), s11 = .int .i64 k ∧ k ≤ n ∧ n - k ≤ gm ∧ Hid (MOwn w1.heap.size wr s10 (insAll lessB ((l.take k).filter (fOf C)))) ∧ Hid (Below w1.heap.size w1 wr))
 case atStart => exact ⟨0, rfl, Nat.zero_le _, by omega, GOwn.nil _ _ _ _, Below.refl _ _⟩
 case round =>
  obtain ⟨k, rfl, hk, hg, HO, HB⟩ := hrel
  obtain ⟨fd, fc, hsh⟩ := own_shape HO.out
  obtain ⟨fn, hfn⟩ : ∃ fn, (insAll lessB ((l.take k).filter (fOf C))).length = fn := ⟨_, rfl⟩
  rw [hfn] at hsh
  subst hsh
  have HFN : Hid ((insAll lessB ((l.take k).filter (fOf C))).length = fn ∧ fn ≤ k) := by
   refine ⟨hfn, ?_⟩
   rw [← hfn, insAll_len]
   exact Nat.le_trans (List.length_filter_le _ _) (List.length_take_le _ _)
  clear hfn
  by_cases hlt : k < n
  · have hltz : (k : Int) < (n : Int) := by omega
    obtain ⟨x, hx⟩ : ∃ x, l[k]? = some x := ⟨l[k]'(by have := HN.out; omega), List.getElem?_eq_getElem _⟩
    obtain ⟨b, off, hbo, hb, hcell⟩ := mrow_at HU1.out (by have := HN.out; omega)
    subst hbo
    have h3 := (hcell k x hx).below hb HB.out
    have hld := h3.load
    have hc0 := h3.c0
    have HFX : Hid (Calls Tryz.prog 21 #[.slice bd on bap, .string x.1] wr fun y w' => (∃ q, y = .returned (.tuple #[.int .i64 q, .bool (hasW C x.1)])) ∧ w' = wr) := HFI.out wr x.1 (HB1.out.trans (HB.out.mono HB1.out.size))
    have HTK : Hid ((l.take (k + 1)).filter (fOf C) = (l.take k).filter (fOf C) ++ (if hasW C x.1 then [] else [x])) := keep_snoc C hx
    obtain ⟨hw, hhw⟩ : ∃ hw, hasW C x.1 = hw := ⟨_, rfl⟩
    rw [hhw] at HFX HTK
    have HPU : Hid (Calls Tryz.prog 22 #[.slice fd fn fc, .agg #[.string x.1, .int .i64 x.2.1, .int .i64 x.2.2]] wr fun e w' => ∃ v', e = .returned v' ∧ MOwn wr.heap.size w' v' (ins lessB x (insAll lessB ((l.take k).filter (fOf C)))) ∧ Below wr.heap.size wr w') := refPut_any wr _ _ x (own_row HO.out) (by have := HFN.out; omega) (fun y hy => HUS.out y (List.mem_of_mem_take (List.mem_filter.1 (insAll_mem lessB_sto hy)).1)) (HUS.out x (List.mem_of_getElem? hx))
    clear hcell hx h3 hhw
    cases hw
    · go_wp2_with (first
       | (go_at_call 21; refine HFX.out.mono ?_; rintro y w3 ⟨⟨q, rfl⟩, hw3⟩; subst hw3)
       | (go_at_call 22; refine HPU.out.mono ?_; rintro y w4 ⟨v4, rfl, hr4, hb4⟩))
      have HO4 : Hid (MOwn w1.heap.size w4 v4 (insAll lessB ((l.take (k + 1)).filter (fOf C)))) := by
       show MOwn _ _ _ _
       rw [HTK.out, if_neg (by decide), insAll_snoc]
       exact own_mono hr4 HB.out.size
      have HB4 : Hid (Below w1.heap.size w1 w4) := HB.out.trans (hb4.mono HB.out.size)
      clear hr4 hb4
      go_roundg (n - (k + 1))
      case measure => omega
      case rel => exact ⟨k + 1, by go_num, by omega, Nat.le_refl _, HO4, HB4⟩
    · go_wp2_with (go_at_call 21; refine HFX.out.mono ?_; rintro y w3 ⟨⟨q, rfl⟩, hw3⟩; subst hw3)
      go_roundg (n - (k + 1))
      case measure => omega
      case rel => exact ⟨k + 1, by go_num, by omega, Nat.le_refl _, by rw [HTK.out]; simpa using HO, HB⟩
  · have hltz : ¬ (k : Int) < (n : Int) := by omega
    have HE : Hid (l.take k = l) := List.take_of_length_le (by have := HN.out; omega)
    rw [HE.out] at HO HFN
    have hfz : fn < 137438953472 := by have := HFN.out; omega
    have HBR : Hid (Below w.heap.size w wr) := HB1.out.trans (HB.out.mono HB1.out.size)
    clear HE hk hg hlt
    obtain ⟨wo, hwo⟩ : ∃ wo, wo = wr := ⟨_, rfl⟩
    subst hwo
    go_wp2_with (go_at_call 23; refine (HNO.out _ HBR.out).mono ?_; rintro x w2 ⟨a, c, rfl, hrow2, hb2⟩; have HB2 : Hid (Below w1.heap.size w1 w2) := HB.out.trans (hb2.mono HB.out.size); have HROW2 : Hid (PRow w2 (.slice a m c) C) := hrow2; have HO2 : Hid (MOwn w1.heap.size w2 (.slice fd fn fc) (insAll lessB (l.filter (fOf C)))) := own_below HO.out hb2; clear hb2 hrow2)
    clear HO HB
    go_loopg [10, 15, 16, 17, 18] m (fun gm s10 s15 s16 s17 s18 wr => ∃ (j : Nat), s15 = .int .i64 j ∧ j ≤ m ∧ m - j ≤ gm ∧ Hid (MOwn w1.heap.size wr s10 (insAll lessB (l.filter (fOf C) ++ (C.take j).filterMap (mtch ws.data.toList e)))) ∧ Hid (Below w2.heap.size w2 wr))
    case atStart => exact ⟨0, rfl, Nat.zero_le _, by omega, by show MOwn _ _ _ _; simpa using HO2.out, Below.refl _ _⟩
    case round =>
     obtain ⟨j, hs15, hj, hg, HO3, HBq⟩ := hrel
     subst hs15
     obtain ⟨gd, gc, hsh⟩ := own_shape HO3.out
     obtain ⟨gn, hgn⟩ : ∃ gn, (insAll lessB (l.filter (fOf C) ++ (C.take j).filterMap (mtch ws.data.toList e))).length = gn := ⟨_, rfl⟩
     rw [hgn] at hsh
     subst hsh
     have HGN : Hid (gn ≤ fn + j ∧ (insAll lessB (l.filter (fOf C) ++ (C.take j).filterMap (mtch ws.data.toList e))).length = gn) := by
      refine ⟨?_, hgn⟩
      have h0 := HFN.out.1
      rw [insAll_len] at h0
      rw [← hgn, insAll_len, List.length_append, h0]
      have h1 := List.length_filterMap_le (mtch ws.data.toList e) (C.take j)
      have h2 : (C.take j).length ≤ j := List.length_take_le _ _
      omega
     clear hgn
     by_cases hlt : j < m
     · have hltz : (j : Int) < (m : Int) := by omega
       obtain ⟨p, hp⟩ : ∃ p, C[j]? = some p := ⟨C[j]'(by have := HML.out; omega), List.getElem?_eq_getElem _⟩
       obtain ⟨b, off, hbo, hb, hcell⟩ := HROW2.out.at (by omega)
       subst hbo
       have HTP : Hid (∀ W, Below w2.heap.size w2 W → TwoAt W b (off + j * 2) p) := fun W hW => (hcell j p hp).below hb hW
       obtain ⟨c0, c1⟩ := HTP.out wr HBq.out
       have HDI : Hid (∀ W, Calls Tryz.prog 24 #[.string p.1, .string ws] W fun x w' => x = .returned (.tuple #[.int .i64 (dN (dsE p.1.data.toList ws.data.toList)), .bool (dF (dsE p.1.data.toList ws.data.toList))]) ∧ Below W.heap.size W w') := fun W => refDistance_is p.1 ws W (HCM.out p (List.mem_of_getElem? hp)) HWS.out
       have HWD : Hid (∀ W, Calls Tryz.prog 25 #[.string p.1] W fun x w' => x = .returned (.bool (wordB p.1.data.toList)) ∧ Below W.heap.size W w') := fun W => RefWord_any p.1 W (by have := HCM.out p (List.mem_of_getElem? hp); omega)
       have HTK : Hid ((C.take (j + 1)).filterMap (mtch ws.data.toList e) = (C.take j).filterMap (mtch ws.data.toList e) ++ (mtch ws.data.toList e p).toList) := put_snoc hp
       have HPU : Hid (∀ W x, x.1.size ≤ 9223372036854775807 → Below wr.heap.size wr W → Calls Tryz.prog 22 #[.slice gd gn gc, .agg #[.string x.1, .int .i64 x.2.1, .int .i64 x.2.2]] W fun y w' => ∃ v', y = .returned v' ∧ MOwn W.heap.size w' v' (ins lessB x (insAll lessB (l.filter (fOf C) ++ (C.take j).filterMap (mtch ws.data.toList e)))) ∧ Below W.heap.size W w') := fun W x hx hW => refPut_any W _ _ x (own_row (own_below HO3.out hW)) (by have := HGN.out; have := HFN.out.2; omega) (fun y hy => by
        rcases List.mem_append.1 (insAll_mem lessB_sto hy) with h | h
        · exact HUS.out y (List.mem_filter.1 h).1
        · obtain ⟨z, hz, hzm⟩ := List.mem_filterMap.1 h
          rw [mtch_word hzm]
          have := HCM.out z (List.mem_of_mem_take hz)
          omega) hx
       have HMT := mtch_of (word := ws.data.toList) (e := e) (p := p)
       rw [HMT] at HTK
       have HPS : Hid (p.1.size ≤ 9223372036854775807) := by have := HCM.out p (List.mem_of_getElem? hp); show _ ≤ _; omega
       clear hcell hp HMT
       obtain ⟨dn, hdn⟩ : ∃ dn, dN (dsE p.1.data.toList ws.data.toList) = dn := ⟨_, rfl⟩
       obtain ⟨df, hdf⟩ : ∃ df, dF (dsE p.1.data.toList ws.data.toList) = df := ⟨_, rfl⟩
       obtain ⟨wd, hwd⟩ : ∃ wd, wordB p.1.data.toList = wd := ⟨_, rfl⟩
       rw [hdn, hdf] at HDI HTK
       rw [hwd] at HWD HTK
       clear hdn hdf hwd
       by_cases hall : 0 < p.2 ∧ wd = true ∧ df = true ∧ dn ≤ e
       · obtain ⟨g1, g2, g3, g4⟩ := hall
         rw [if_pos ⟨g1, g2, g3, g4⟩] at HTK
         subst g2 g3
         go_upto_region 15 with (go_at_call 24; refine (HDI.out _).mono ?_; rintro x w3 ⟨rfl, hb3⟩; have HB3 : Hid (Below wr.heap.size wr w3) := hb3; clear hb3)
         obtain ⟨d0, d1⟩ := HTP.out w3 (HBq.out.trans (HB3.out.mono HBq.out.size))
         go_upto_region 16 with (go_at_call 25; refine (HWD.out _).mono ?_; rintro x w4 ⟨rfl, hb4⟩; have HB4 : Hid (Below wr.heap.size wr w4) := HB3.out.trans (hb4.mono HB3.out.size); clear hb4)
         clear c0 c1 d0 d1
         obtain ⟨d0, d1⟩ := HTP.out w4 (HBq.out.trans (HB4.out.mono HBq.out.size))
         go_upto_region 17 with fail
         have hb4d : Below wr.heap.size wr w4.drew := HB4.out.drew
         have hS : STP b (off + j * 2) p w4.drew := HTP.out w4.drew (HBq.out.trans (hb4d.mono HBq.out.size))
         refine region_at (S := STP b (off + j * 2) p) 15 rfl mixedP hS (fun _ => ?_)
         refine tk (i := 0) 88 rfl rfl (by kernel_rfl) (fun _ s => by (have h := STP.facts s; clear s; go_simp; first | done | exact rfl)) ?_
         simp only [sZa, sZb, sZc]
         refine tk (i := 1) 89 rfl rfl (by kernel_rfl) (fun _ s => by (have h := STP.facts s; clear s; go_simp; first | done | exact rfl)) ?_
         simp only [sZa, sZb, sZc]
         refine tk (i := 2) 90 rfl rfl (by kernel_rfl) (fun _ s => by (have h := STP.facts s; clear s; go_simp; first | done | exact rfl)) ?_
         simp only [sZa, sZb, sZc]
         refine tk (i := 3) 91 rfl rfl (by kernel_rfl) (fun _ s => by (have h := STP.facts s; clear s; go_simp; first | done | exact rfl)) ?_
         simp only [sZa, sZb, sZc]
         refine tk (i := 4) 92 rfl rfl (by kernel_rfl) (fun _ s => by (have h := STP.facts s; clear s; go_simp; first | done | exact rfl)) ?_
         simp only [sZa, sZb, sZc]
         refine tk (i := 5) 93 rfl rfl (by kernel_rfl) (fun _ s => by (have h := STP.facts s; clear s; go_simp; first | done | exact rfl)) ?_
         simp only [sZa, sZb, sZc]
         refine tk (i := 6) 94 rfl rfl (by kernel_rfl) (fun _ s => by (have h := STP.facts s; clear s; go_simp; first | done | exact rfl)) ?_
         simp only [sZa, sZb, sZc]
         refine tk (i := 7) 95 rfl rfl (by kernel_rfl) (fun _ s => by (have h := STP.facts s; clear s; go_simp; first | done | exact rfl)) ?_
         simp only [sZa, sZb, sZc]
         refine tk (i := 8) 96 rfl rfl (by kernel_rfl) (fun _ s => by (have h := STP.facts s; clear s; go_simp; first | done | exact rfl)) ?_
         simp only [sZa, sZb, sZc]
         refine tk (i := 9) 97 rfl rfl (by kernel_rfl) (fun _ s => by (have h := STP.facts s; clear s; go_simp; first | done | exact rfl)) ?_
         simp only [sZa, sZb, sZc]
         refine tk (i := 10) 98 rfl rfl (by kernel_rfl) (fun _ s => by (have h := STP.facts s; clear s; go_simp; first | done | exact rfl)) ?_
         simp only [sZa, sZb, sZc]
         refine tk (i := 11) 99 rfl rfl (by kernel_rfl) (fun _ s => by (have h := STP.facts s; clear s; go_simp; first | done | exact rfl)) ?_
         simp only [sZa, sZb, sZc]
         refine tk (i := 12) 100 rfl rfl (by kernel_rfl) (fun _ s => by (have h := STP.facts s; clear s; go_simp; first | done | exact rfl)) ?_
         simp only [sZa, sZb, sZc]
         refine one_call (i := 13) (w0 := w4.drew) 101 22 #[.slice gd gn gc, .agg #[.string p.1, .int .i64 p.2, .int .i64 dn]] (by kernel_rfl) rfl rfl (by rfl) (by kernel_rfl) ?_
         refine (HPU.out w4.drew (p.1, p.2, dn) HPS.out hb4d).mono ?_
         rintro y w5 ⟨v5, rfl, ho5, hb5⟩
         have HB5 : Hid (Below wr.heap.size wr w5) := hb4d.trans (hb5.mono hb4d.size)
         have hS5 : STP b (off + j * 2) p w5 := HTP.out w5 (HBq.out.trans (HB5.out.mono HBq.out.size))
         have HO5 : Hid (MOwn w1.heap.size w5 v5 (insAll lessB (l.filter (fOf C) ++ (C.take (j + 1)).filterMap (mtch ws.data.toList e)))) := by
          show MOwn _ _ _ _
          rw [HTK.out, Option.toList_some, ← List.append_assoc, insAll_snoc]
          exact own_mono ho5 (Nat.le_trans (Nat.le_trans HB2.out.size HBq.out.size) hb4d.size)
         clear ho5 hb5 hb4d
         refine ⟨_, rfl, hS5, fun _ => ?_⟩
         simp only [sZa, sZb, sZc]
         refine one_value (i := 14) (v := v5) (w' := w5) 10 (by kernel_rfl) rfl rfl (by rfl) (by kernel_rfl) hS5 (fun _ => ?_)
         simp only [sZa, sZb, sZc]
         refine wpAnyH_done (by kernel_rfl) ?_ _
         clear hS hS5 d0 d1
         go_wp2
         go_roundg (m - (j + 1))
         case measure => omega
         case rel => exact ⟨j + 1, by go_num, by omega, Nat.le_refl _, HO5, HBq.out.trans (HB5.out.mono HBq.out.size)⟩
       · rw [if_neg hall, Option.toList_none, List.append_nil] at HTK
         by_cases g1 : 0 < p.2
         · cases wd
           · clear hall HPU HPS
             go_wp2_with (first
              | (go_at_call 24; refine (HDI.out _).mono ?_; rintro x w3 ⟨rfl, hb3⟩; have HB3 : Hid (Below wr.heap.size wr w3) := hb3; clear hb3; obtain ⟨d0, d1⟩ := HTP.out w3 (HBq.out.trans (HB3.out.mono HBq.out.size)))
              | (go_at_call 25; refine (HWD.out _).mono ?_; rintro x w4 ⟨rfl, hb4⟩; have HB4 : Hid (Below wr.heap.size wr w4) := HB3.out.trans (hb4.mono HB3.out.size); clear hb4; obtain ⟨e0, e1⟩ := HTP.out w4 (HBq.out.trans (HB4.out.mono HBq.out.size))))
             have HO4 : Hid (MOwn w1.heap.size w4 (.slice gd gn gc) (insAll lessB (l.filter (fOf C) ++ (C.take (j + 1)).filterMap (mtch ws.data.toList e)))) := by show MOwn _ _ _ _; rw [HTK.out]; exact own_below HO3.out HB4.out
             go_roundg (m - (j + 1))
             case measure => omega
             case rel => exact ⟨j + 1, by go_num, by omega, Nat.le_refl _, HO4, HBq.out.trans (HB4.out.mono HBq.out.size)⟩
           · cases df
             · clear hall HPU HPS
               go_wp2_with (first
                | (go_at_call 24; refine (HDI.out _).mono ?_; rintro x w3 ⟨rfl, hb3⟩; have HB3 : Hid (Below wr.heap.size wr w3) := hb3; clear hb3; obtain ⟨d0, d1⟩ := HTP.out w3 (HBq.out.trans (HB3.out.mono HBq.out.size)))
                | (go_at_call 25; refine (HWD.out _).mono ?_; rintro x w4 ⟨rfl, hb4⟩; have HB4 : Hid (Below wr.heap.size wr w4) := HB3.out.trans (hb4.mono HB3.out.size); clear hb4; obtain ⟨e0, e1⟩ := HTP.out w4 (HBq.out.trans (HB4.out.mono HBq.out.size))))
               have HO4 : Hid (MOwn w1.heap.size w4 (.slice gd gn gc) (insAll lessB (l.filter (fOf C) ++ (C.take (j + 1)).filterMap (mtch ws.data.toList e)))) := by show MOwn _ _ _ _; rw [HTK.out]; exact own_below HO3.out HB4.out
               go_roundg (m - (j + 1))
               case measure => omega
               case rel => exact ⟨j + 1, by go_num, by omega, Nat.le_refl _, HO4, HBq.out.trans (HB4.out.mono HBq.out.size)⟩
             · have g4 : ¬ dn ≤ e := fun h => hall ⟨g1, rfl, rfl, h⟩
               clear hall HPU HPS
               go_wp2_with (first
                | (go_at_call 24; refine (HDI.out _).mono ?_; rintro x w3 ⟨rfl, hb3⟩; have HB3 : Hid (Below wr.heap.size wr w3) := hb3; clear hb3; obtain ⟨d0, d1⟩ := HTP.out w3 (HBq.out.trans (HB3.out.mono HBq.out.size)))
                | (go_at_call 25; refine (HWD.out _).mono ?_; rintro x w4 ⟨rfl, hb4⟩; have HB4 : Hid (Below wr.heap.size wr w4) := HB3.out.trans (hb4.mono HB3.out.size); clear hb4; obtain ⟨e0, e1⟩ := HTP.out w4 (HBq.out.trans (HB4.out.mono HBq.out.size))))
               have HO4 : Hid (MOwn w1.heap.size w4 (.slice gd gn gc) (insAll lessB (l.filter (fOf C) ++ (C.take (j + 1)).filterMap (mtch ws.data.toList e)))) := by show MOwn _ _ _ _; rw [HTK.out]; exact own_below HO3.out HB4.out
               go_roundg (m - (j + 1))
               case measure => omega
               case rel => exact ⟨j + 1, by go_num, by omega, Nat.le_refl _, HO4, HBq.out.trans (HB4.out.mono HBq.out.size)⟩
         · clear hall HPU HPS
           go_wp2_with (first
            | (go_at_call 24; refine (HDI.out _).mono ?_; rintro x w3 ⟨rfl, hb3⟩; have HB3 : Hid (Below wr.heap.size wr w3) := hb3; clear hb3; obtain ⟨d0, d1⟩ := HTP.out w3 (HBq.out.trans (HB3.out.mono HBq.out.size)))
            | (go_at_call 25; refine (HWD.out _).mono ?_; rintro x w4 ⟨rfl, hb4⟩; have HB4 : Hid (Below wr.heap.size wr w4) := HB3.out.trans (hb4.mono HB3.out.size); clear hb4; obtain ⟨e0, e1⟩ := HTP.out w4 (HBq.out.trans (HB4.out.mono HBq.out.size))))
           have HO4 : Hid (MOwn w1.heap.size w4 (.slice gd gn gc) (insAll lessB (l.filter (fOf C) ++ (C.take (j + 1)).filterMap (mtch ws.data.toList e)))) := by show MOwn _ _ _ _; rw [HTK.out]; exact own_below HO3.out HB4.out
           go_roundg (m - (j + 1))
           case measure => omega
           case rel => exact ⟨j + 1, by go_num, by omega, Nat.le_refl _, HO4, HBq.out.trans (HB4.out.mono HBq.out.size)⟩
     · have hltz : ¬ (j : Int) < (m : Int) := by omega
       have HE : Hid (C.take j = C) := List.take_of_length_le (by have := HML.out; omega)
       rw [HE.out] at HO3
       clear HE HGN hj hg
       go_wp2_with fail
       go_ret2
       exact ⟨_, rfl, own_mono HO3.out HB1.out.size, HB1.out.trans ((HB2.out.trans (HBq.out.mono HB2.out.size)).mono HB1.out.size)⟩
end Mg
end Go.Proofs.YtncnefpkfbngaaaGreatDoor

/- The reference's Merge, as a law asks it. -/
namespace Go.Proofs.YtncnefpkfbngaaaGreatDoor
open Go.RowKit Go.Shelf Go.Lib Nums Fm Pk Pm Fz Ed Lv
set_option maxRecDepth 100000
namespace Mg
set_option maxHeartbeats 1000000 in
theorem refMerge_no (w : World) (u v : Value) (l : List M) (over : List Pr) (ws : ByteArray) (e : Int) (hu : MRow w u l) (hv : PRow w v over) (hm : ws.size ≤ 9223372036854775807) (hr : ¬ Go.Proofs.YtncnefpkfbngaaaGreatDoor.rightB ws.data.toList e = true) :
 Calls Tryz.prog 7 #[u, v, .string ws, .int .i64 e] w fun x w' => x = .returned (.tuple #[.slice none 0 0, .int .i64 110]) ∧ Below w.heap.size w w' := by
 obtain ⟨ad, cap, rfl⟩ := hu.form
 obtain ⟨bd, bap, rfl⟩ := hv.form
 have HRI : Hid (Calls Tryz.prog 20 #[.string ws, .int .i64 e] w fun x w' => x = .returned (.bool false) ∧ Below w.heap.size w w') := by
  have := LRight_any ws e w hm
  rw [Bool.eq_false_iff.2 hr] at this
  exact this
 clear hu hv hm hr
 go_enter Tryz.func7, Tryz.ntmps7
 go_wp2_with (go_at_call 20; refine HRI.out.mono ?_; rintro x w1 ⟨rfl, hb1⟩; have HB1 : Hid (Below w.heap.size w w1) := hb1; clear hb1)
 go_ret2
 exact ⟨rfl, HB1.out⟩
theorem refMerge_told (w : World) (u v : Value) (l : List M) (over : List Pr) (ws : ByteArray) (e : Int) (hu : MRow w u l) (hus : ∀ x ∈ l, SmM x) (hv : PRow w v over) (hs : Sm over) (hbig : ∀ x ∈ over, x.1.size ≤ 1048576) (hm : ws.size ≤ 9223372036854775807) (hl : l.length < 137438953472) (ho : over.length < 137438953472) :
 Calls Tryz.prog 7 #[u, v, .string ws, .int .i64 e] w fun x w' => ∃ ad cap, x = .returned (.tuple #[.slice ad (mgL l over ws.data.toList e).length cap, .int .i64 (allC ws.data.toList e)]) ∧ MRow w' (.slice ad (mgL l over ws.data.toList e).length cap) (mgL l over ws.data.toList e) ∧ Below w.heap.size w w' := by
 by_cases hr : Go.Proofs.YtncnefpkfbngaaaGreatDoor.rightB ws.data.toList e = true
 · have hh := hr
   simp only [Go.Proofs.YtncnefpkfbngaaaGreatDoor.rightB, Bool.and_eq_true, decide_eq_true_eq] at hh
   obtain ⟨_, _, _, _, hs96, _⟩ := word_runes (x := (ws, 0)) hh.1.1
   simp only at hs96
   exact (refMerge_yes w u v l over ws e hu hus hv hs hbig (by omega) hl ho hr).mono fun x w' h => told_yes hr h
 · exact (refMerge_no w u v l over ws e hu hv hm hr).mono fun x w' h => told_no hr h
end Mg
end Go.Proofs.YtncnefpkfbngaaaGreatDoor

/- FuzzyMerges: the law's own walk. -/
namespace Go.Proofs.YtncnefpkfbngaaaGreatDoor
open Go.RowKit Go.Shelf Go.Lib Nums Fm Pk Pm Fz Ed Lv
set_option maxRecDepth 100000

set_option maxHeartbeats 4000000 in
theorem fmerges_walk (v u : Value) (q : Mt) (w : World) (ht : Tabs w) (l : List Mt) (h : MRow w v l) (hs : ∀ x ∈ l, SmM x) (hl : l.length ≤ 1048576) (over : List Pr) (ho : PRow w u over) (hos : Sm over) (hol : over.length ≤ 1048576) (hob : ∀ x ∈ over, x.1.size ≤ 1048576) (hq : SmM q) :
 Calls Tryz.prog 3 #[v, u, .agg #[.string q.1, .int .i64 q.2.1, .int .i64 q.2.2]] w fun e w' => e = .returned (.bool true) ∧ Below w.heap.size w w' := by
 obtain ⟨s, e, be⟩ := q
 have hz : s.size ≤ 9223372036854775807 := hq
 simp only
 obtain ⟨W0, hW0⟩ : ∃ W0, w.alloc (.cells #[.string s, .int .i64 e, .int .i64 be] 25) = W0 := ⟨_, rfl⟩
 obtain ⟨qb, hqb⟩ : ∃ qb, w.heap.size = qb := ⟨_, rfl⟩
 have HB0 : Hid (Below w.heap.size w W0) := by show Below _ _ _; rw [← hW0]; exact (Below.refl _ w).alloc (Nat.le_refl _) _
 have HQ0 : Hid (∀ W, Below W0.heap.size W0 W → W.cell? ⟨qb, 0, none⟩ = some (.string s) ∧ W.cell? ⟨qb, 1, none⟩ = some (.int .i64 e)) := fun W hW => by
  have hlt : qb < W0.heap.size := by rw [← hW0, ← hqb]; simp
  exact ⟨(hW.cell (p := ⟨qb, 0, none⟩) hlt).trans (by rw [← hW0, ← hqb]; simp), (hW.cell (p := ⟨qb, 1, none⟩) hlt).trans (by rw [← hW0, ← hqb]; simp)⟩
 have HBW : Hid (∀ W, Below W0.heap.size W0 W → Below w.heap.size w W) := fun W hW => HB0.out.trans (hW.mono HB0.out.size)
 have HAL : Hid (∀ W, Below W0.heap.size W0 W → Calls Tryz.prog 8 #[] W fun e w' => e = .returned (.bool true) ∧ Below W.heap.size W w') := fun W hW => alive12_any W (ht.below (HBW.out W hW))
 have hll := Mg.mgL_len l over s.data.toList e
 obtain ⟨L, hL⟩ : ∃ L, Mg.mgL l over s.data.toList e = L := ⟨_, rfl⟩
 obtain ⟨C, hCC⟩ : ∃ C, allC s.data.toList e = C := ⟨_, rfl⟩
 rw [hL] at hll
 have HMG : Hid (∀ W, Below W0.heap.size W0 W → Calls Tryz.prog 6 #[v, u, .string s, .int .i64 e] W fun x w' => ∃ ad cap, x = .returned (.tuple #[.slice ad L.length cap, .int .i64 C]) ∧ MRow w' (.slice ad L.length cap) L ∧ Below W.heap.size W w') := fun W hW => by
  have := Mg.Merge_told W (ht.below (HBW.out W hW)) v u l over s e (h.below (HBW.out W hW)) (ho.below (HBW.out W hW)) hos hz (by omega) (by omega)
  rw [hL, hCC] at this
  exact this
 have HRM : Hid (∀ W, Below W0.heap.size W0 W → Calls Tryz.prog 7 #[v, u, .string s, .int .i64 e] W fun x w' => ∃ ad cap, x = .returned (.tuple #[.slice ad L.length cap, .int .i64 C]) ∧ MRow w' (.slice ad L.length cap) L ∧ Below W.heap.size W w') := fun W hW => by
  have := Mg.refMerge_told W v u l over s e (h.below (HBW.out W hW)) hs (ho.below (HBW.out W hW)) hos hob hz (by omega) (by omega)
  rw [hL, hCC] at this
  exact this
 obtain ⟨n, hn⟩ : ∃ n, L.length = n := ⟨_, rfl⟩
 have HSM : Hid (∀ W a c b d, MRow W (.slice a n c) L → MRow W (.slice b n d) L → Calls Tryz.prog 9 #[.slice a n c, .slice b n d] W fun e w' => e = .returned (.bool true) ∧ Below W.heap.size W w') := fun W a c b d g1 g2 => same12_told W _ _ L g1 g2 (by omega)
 rw [hn] at HMG HRM
 have hcc : (C == C) = true := by simp
 obtain ⟨ad, cap, rfl⟩ := h.form
 obtain ⟨bd, bap, rfl⟩ := ho.form
 have HE0 : Hid (w.alloc (.cells #[.string s, .int .i64 e, .int .i64 be] 25) = W0 ∧ w.heap.size = qb) := ⟨hW0, hqb⟩
 clear h ht hs hL hCC hn hll ho hos hob hq hW0 hqb hz
 go_enter Tryz.func3, Tryz.ntmps3
 go_upto_region 1 with fail
 rw [HE0.out.1, HE0.out.2]
 obtain ⟨c0, c1⟩ := HQ0.out W0 (Below.refl _ _)
 go_upto_region 2 with (go_at_call 6; refine (HMG.out _ (Below.refl _ _)).mono ?_; rintro x w2 ⟨a2, c2, rfl, hm2, hb2⟩; have HB2 : Hid (Below W0.heap.size W0 w2) := hb2; have HM2 : Hid (MRow w2 (.slice a2 n c2) L) := hm2; clear hb2 hm2 c0 c1)
 obtain ⟨d0, d1⟩ := HQ0.out w2 HB2.out
 go_wp2_with (first
  | (go_at_call 7; refine (HRM.out _ HB2.out).mono ?_; rintro x w3 ⟨a3, c3, rfl, hm3, hb3⟩; have HB3 : Hid (Below W0.heap.size W0 w3) := HB2.out.trans (hb3.mono HB2.out.size); have HM3 : Hid (MRow w3 (.slice a3 n c3) L) := hm3; have HM23 : Hid (MRow w3 (.slice a2 n c2) L) := HM2.out.below hb3; clear hb3 hm3 d0 d1)
  | (go_at_call 8; refine (HAL.out _ HB3.out).mono ?_; rintro e w4 ⟨rfl, hb4⟩; have HB4 : Hid (Below W0.heap.size W0 w4) := HB3.out.trans (hb4.mono HB3.out.size); have HM4 : Hid (MRow w4 (.slice a3 n c3) L) := HM3.out.below hb4; have HM24 : Hid (MRow w4 (.slice a2 n c2) L) := HM23.out.below hb4; clear hb4)
  | (go_at_call 9; refine (HSM.out _ _ _ _ _ HM24.out HM4.out).mono ?_; rintro e w5 ⟨rfl, hb5⟩))
 go_ret
 exact ⟨by first | rfl | simp, HBW.out _ (HB4.out.trans (hb5.mono HB4.out.size))⟩
end Go.Proofs.YtncnefpkfbngaaaGreatDoor
