/- Texts that were written apart, joined. -/
import Derived.Test.YtncnefpkfbngaaaGreatDoorF2
import Derived.Test.YtncnefpkfbngaaaGreatDoorE3
import Derived.Test.YtncnefpkfbngaaaGreatDoorR0
import Derived.Test.YtncnefpkfbngaaaGreatDoorW5
import Derived.Deep.QuietTactic
import Derived.BigQuiet
import Derived.Laws.StructEq
/- The law's on; the reference's All and Same. -/
namespace Go.Proofs.YtncnefpkfbngaaaGreatDoor
open Go.RowKit Go.Shelf Go.Lib Nums Fm Pk Pm Fz Ed Lv
set_option maxRecDepth 100000

set_option maxHeartbeats 2000000 in
theorem on12_no (w : World) (v : Value) (l : List Pr) (h : PRow w v l) (hl : l.length ≤ 9223372036854775807) (hsm : Sm l) (hb : onB l = false) :
 Calls Tryz.prog 11 #[v] w fun e w' => e = .returned (.tuple #[.pointer none, .bool false]) ∧ Below w.heap.size w w' := by
 obtain ⟨ad, cap, rfl⟩ := h.form
 have HR : Hid (Calls Tryz.prog 26 #[.slice ad l.length cap] w fun e w' => e = .returned (.bool (rightP l)) ∧ Below w.heap.size w w') := refRight_any w _ l h hl hsm
 obtain ⟨n, hn⟩ : ∃ n, l.length = n := ⟨_, rfl⟩
 have HB : Hid (onB l = false) := hb
 have HN : Hid (l.length = n) := hn
 rw [hn] at HR hl ⊢
 clear h hb hn
 by_cases h3 : 300 < n
 · have h3z : (300 : Int) < (n : Int) := by omega
   go_enter Tryz.func11, Tryz.ntmps11
   go_wp2
   go_ret2
   exact ⟨rfl, Below.refl _ _⟩
 · have h3z : ¬ (300 : Int) < (n : Int) := by omega
   have hr : rightP l = false := by
    have := HB.out
    unfold onB at this
    rw [decide_eq_true (by have := HN.out; omega)] at this
    simpa using this
   rw [hr] at HR
   go_enter Tryz.func11, Tryz.ntmps11
   go_wp2_with (go_at_call 26; refine HR.out.mono ?_; rintro e w1 ⟨rfl, hb1⟩)
   go_ret2
   exact ⟨rfl, hb1⟩
set_option maxHeartbeats 2000000 in
theorem on12_yes (w : World) (ht : Tabs w) (v : Value) (l : List Pr) (h : PRow w v l) (hl : l.length ≤ 9223372036854775807) (hsm : Sm l) (hb : onB l = true) :
 Calls Tryz.prog 11 #[v] w fun e w' => ∃ wb, e = .returned (.tuple #[.pointer (some ⟨wb, 0, none⟩), .bool true]) ∧ w.heap.size ≤ wb ∧ WkOn w' wb l ∧ Below w.heap.size w w' := by
 unfold onB at hb
 simp only [Bool.and_eq_true, decide_eq_true_eq] at hb
 obtain ⟨h3, hr⟩ := hb
 have HC : Hid (buildE l = 0) := right_build hr
 obtain ⟨ad, cap, rfl⟩ := h.form
 have HR : Hid (Calls Tryz.prog 26 #[.slice ad l.length cap] w fun e w' => e = .returned (.bool true) ∧ Below w.heap.size w w') := by
  have := refRight_any w _ l h hl hsm
  rw [hr] at this
  exact this
 have HMK : Hid (∀ W, Below w.heap.size w W → Calls Tryz.prog 28 #[.slice ad l.length cap] W fun e w' => ∃ base vs b, e = .returned (.agg #[.int .i64 base, vs]) ∧ BuildSays W w' l base vs b) := fun W hW => make_all W _ l (h.below hW) HC.out
 have HT : Hid (Tabs w) := ht
 obtain ⟨n, hn⟩ : ∃ n, l.length = n := ⟨_, rfl⟩
 rw [hn] at HR HMK h3 ⊢
 have h3z : ¬ (300 : Int) < (n : Int) := by omega
 clear h hn hr ht hl
 go_enter Tryz.func11, Tryz.ntmps11
 go_wp2_with (first
  | (go_at_call 26; refine HR.out.mono ?_; rintro e w0 ⟨rfl, hb0⟩; have HB0 : Hid (Below w.heap.size w w0) := hb0; clear hb0)
  | (go_at_call 28; refine (HMK.out _ HB0.out).mono ?_; rintro e w1 ⟨base, vs, b, rfl, hS⟩; obtain ⟨sd, nb, sc, hvs, hnb⟩ := StRow.form hS.row; subst hvs; have HS : Hid (BuildSays w0 w1 l base (.slice sd nb sc) b) := hS; have HB1 : Hid (Below w.heap.size w w1) := HB0.out.trans (hS.bel.mono HB0.out.size); clear hS hnb)
  | (go_at_call 27; refine (NewW_any _ w1 l base _ b HC.out HS.out.row HS.out.mach (HT.out.below HB1.out)).mono ?_; rintro e w2 ⟨wb, rfl, h1, hon, hb2⟩))
 go_ret2
 exact ⟨wb, rfl, Nat.le_trans HB1.out.size h1, hon, HB1.out.trans (hb2.mono HB1.out.size)⟩
theorem on_ok {l : List Pr} (h : onB l = true) : buildE l = 0 := by
 unfold onB at h
 simp only [Bool.and_eq_true] at h
 exact right_build h.2
/-- A row of matches that is read. -/
def MRow (w : World) (v : Value) (l : List Mt) : Prop := GRow w.heap.size 3 w v (l.map cellsM)
theorem MRow.below {w w' : World} {v : Value} {l : List Mt} (h : MRow w v l) (hb : Below w.heap.size w w') : MRow w' v l := (GRow.below h hb).mono hb.size
theorem MRow.form {w : World} {v : Value} {l : List Mt} (h : MRow w v l) : ∃ ad cap, v = .slice ad l.length cap := by
 obtain ⟨ad, cap, e⟩ := GRow.shape h
 exact ⟨ad, cap, by rw [e, List.length_map]⟩
theorem MRow.at {w : World} {ad : Option Addr} {n cap : Nat} {l : List Mt} (h : MRow w (.slice ad n cap) l) (h0 : 0 < l.length) : ∃ g off, ad = some ⟨g, off, none⟩ ∧ g < w.heap.size ∧ ∀ k x, l[k]? = some x → w.cell? ⟨g, off + k * 3, none⟩ = some (.string x.1) ∧ w.cell? ⟨g, off + k * 3 + 1, none⟩ = some (.int .i64 x.2.1) ∧ w.cell? ⟨g, off + k * 3 + 2, none⟩ = some (.int .i64 x.2.2) := by
 obtain ⟨ad', cap', hv, hc⟩ := h.ex
 simp only [Value.slice.injEq] at hv
 obtain ⟨g, off, rfl, hg, hx⟩ := hc (by rw [List.length_map]; omega)
 refine ⟨g, off, hv.1, hg, fun k x hk => ?_⟩
 have e : (l.map cellsM)[k]? = some (cellsM x) := by rw [List.getElem?_map, hk]; rfl
 exact ⟨hx k 0 _ _ e rfl, hx k 1 _ _ e rfl, hx k 2 _ _ e rfl⟩
set_option maxHeartbeats 4000000 in
theorem same12_any (w : World) (u v : Value) (l : List Mt) (h1 : MRow w u l) (h2 : MRow w v l) (hl : l.length < 549755813888) :
 Calls Tryz.prog 9 #[u, v] w fun e w' => e = .returned (.bool true) ∧ ∃ q, w' = w.drewN q := by
 obtain ⟨ad1, cap1, rfl⟩ := h1.form
 obtain ⟨ad2, cap2, rfl⟩ := h2.form
 have HR1 : Hid (MRow w (.slice ad1 l.length cap1) l) := h1
 have HR2 : Hid (MRow w (.slice ad2 l.length cap2) l) := h2
 obtain ⟨n1, hn1⟩ : ∃ n, l.length = n := ⟨_, rfl⟩
 have HN : Hid (l.length = n1) := hn1
 rw [hn1] at HR1 HR2 hl
 rw [hn1]
 clear h1 h2 hn1
 have hneb : ((n1 : Int) == (n1 : Int)) = true := beq_self_eq_true _
 go_enter Tryz.func9, Tryz.ntmps9
 go_wp2
 go_loopg [5] n1 (fun g s5 wr => ∃ (k q : Nat), s5 = .int .i64 k ∧ k ≤ n1 ∧ n1 - k ≤ g ∧ wr = w.drewN q)
 case atStart => exact ⟨0, 0, rfl, Nat.zero_le _, by omega, rfl⟩
 case round =>
  obtain ⟨k, q, rfl, hk, hg, hwr⟩ := hrel
  by_cases hlt : k < n1
  · have hltz : (k : Int) < (n1 : Int) := by omega
    obtain ⟨x, hx⟩ : ∃ x, l[k]? = some x := ⟨l[k]'(by have := HN.out; omega), List.getElem?_eq_getElem _⟩
    obtain ⟨b1, off1, rfl, hb1, hc1⟩ := HR1.out.at (by have := HN.out; omega)
    obtain ⟨b2, off2, rfl, hb2, hc2⟩ := HR2.out.at (by have := HN.out; omega)
    obtain ⟨c0, c1, c2⟩ := hc1 k x hx
    obtain ⟨d0, d1, d2⟩ := hc2 k x hx
    have c0' : wr.cell? ⟨b1, off1 + k * 3, none⟩ = some (.string x.1) := by rw [hwr]; exact c0
    have c1' : wr.cell? ⟨b1, off1 + k * 3 + 1, none⟩ = some (.int .i64 x.2.1) := by rw [hwr]; exact c1
    have c2' : wr.cell? ⟨b1, off1 + k * 3 + 2, none⟩ = some (.int .i64 x.2.2) := by rw [hwr]; exact c2
    have d0' : wr.cell? ⟨b2, off2 + k * 3, none⟩ = some (.string x.1) := by rw [hwr]; exact d0
    have d1' : wr.cell? ⟨b2, off2 + k * 3 + 1, none⟩ = some (.int .i64 x.2.1) := by rw [hwr]; exact d1
    have d2' : wr.cell? ⟨b2, off2 + k * 3 + 2, none⟩ = some (.int .i64 x.2.2) := by rw [hwr]; exact d2
    have HW : Hid (wr = w.drewN q) := hwr
    have s1 : (x.1.toList == x.1.toList) = true := by simp
    have s2 : (x.2.1 == x.2.1) = true := by simp
    have s3 : (x.2.2 == x.2.2) = true := by simp
    clear c0 c1 c2 d0 d1 d2 hc1 hc2 hx hwr
    go_wp2_with fail
    go_quiet (fail)
    go_wp2_with fail
    go_roundg (n1 - (k + 1))
    case measure => omega
    case rel => exact ⟨k + 1, _, by go_num, by omega, Nat.le_refl _, by rw [HW.out, World.drewN_drewN]⟩
  · have hkn : k = n1 := by omega
    have hnlt : ¬ (k : Int) < (n1 : Int) := by omega
    clear hk
    go_wp2_with fail
    go_ret
    exact ⟨rfl, q, rfl⟩
end Go.Proofs.YtncnefpkfbngaaaGreatDoor

/- What is near; the law's alive. -/
namespace Go.Proofs.YtncnefpkfbngaaaGreatDoor
open Go.RowKit Go.Shelf Go.Lib Nums Fm Pk Pm Fz Ed Lv
set_option maxRecDepth 100000

theorem nearOf_len (xs : List Int) (d : Nat) (l : List Pr) : (nearOf xs d l).length ≤ l.length := List.length_filterMap_le _ _
/-- The distance of a dictionary's word. -/
theorem ds_word {x : Pr} {word : ByteArray} {xs : List Int} (hw : wordB x.1.data.toList = true) (hx : rs word.data.toList = some xs) (hl : xs.length ≤ 24) : dsE x.1.data.toList word.data.toList = some (lv (entOf x).1 xs) := by
 obtain ⟨ys, h1, _, h3, _⟩ := word_runes hw
 have e : (entOf x).1 = ys := by rw [entOf, h1]; rfl
 rw [e]
 exact dsE_some (rsE_some h1 (by omega)) (rsE_some hx (by omega))
def al12 : List Pr := [(⟨#[97]⟩, 3), (⟨#[97, 98]⟩, 5), (⟨#[98, 98]⟩, 2), (⟨#[120, 121, 122]⟩, 1)]
theorem al12_on : onB al12 = true := by decide +kernel
theorem al12_sm : Sm al12 := by unfold Sm al12; decide
theorem lvx (n : Nat) (a b : List Int) (c : Nat) (h : a.length + b.length ≤ n) (e : lvF n a b = c) : lv a b = c := by rw [← lvF_eq n a b h, e]
theorem al12_near : nearOf [97, 98] 1 al12 = [(⟨#[97]⟩, 3, 1), (⟨#[97, 98]⟩, 5, 0), (⟨#[98, 98]⟩, 2, 1)] := by
 have e1 : (entOf (⟨#[97]⟩, 3)).1 = [97] := by decide +kernel
 have e2 : (entOf (⟨#[97, 98]⟩, 5)).1 = [97, 98] := by decide +kernel
 have e3 : (entOf (⟨#[98, 98]⟩, 2)).1 = [98, 98] := by decide +kernel
 have e4 : (entOf (⟨#[120, 121, 122]⟩, 1)).1 = [120, 121, 122] := by decide +kernel
 have l1 : lv [97] [97, 98] = 1 := lvx 3 _ _ _ (by decide) (by decide +kernel)
 have l2 : lv [97, 98] [97, 98] = 0 := lvx 4 _ _ _ (by decide) (by decide +kernel)
 have l3 : lv [98, 98] [97, 98] = 1 := lvx 4 _ _ _ (by decide) (by decide +kernel)
 have l4 : lv [120, 121, 122] [97, 98] = 3 := lvx 5 _ _ _ (by decide) (by decide +kernel)
 simp [nearOf, al12, e1, e2, e3, e4, l1, l2, l3, l4]
theorem four_new (w : World) (x y z u : Pr) (T : TypeId) (c : Nat) : PRow (w.alloc (.cells #[.string x.1, .int .i64 x.2, .string y.1, .int .i64 y.2, .string z.1, .int .i64 z.2, .string u.1, .int .i64 u.2] T)) (.slice (some ⟨w.heap.size, 0, none⟩) 4 c) [x, y, z, u] := by
 refine ⟨_, c, rfl, fun _ => ⟨w.heap.size, 0, rfl, by simp, fun i q hi => ?_⟩⟩
 match i, hi with
 | 0, hi => simp at hi; subst hi; exact ⟨by simp, by simp⟩
 | 1, hi => simp at hi; subst hi; exact ⟨by simp, by simp⟩
 | 2, hi => simp at hi; subst hi; exact ⟨by simp, by simp⟩
 | 3, hi => simp at hi; subst hi; exact ⟨by simp, by simp⟩
 | n + 4, hi => simp at hi
theorem All_ab (w : World) (wb : Nat) (hon : WkOn w wb al12) : Calls Tryz.prog 12 #[.pointer (some ⟨wb, 0, none⟩), .string { data := #[97, 98] }, .int .i64 1] w fun x w' => ∃ g cap, x = .returned (.tuple #[.slice (some ⟨g, 0, none⟩) 3 cap, .int .i64 0]) ∧ 3 ≤ cap ∧ w'.cell? ⟨g, 6, none⟩ = some (.string { data := #[98, 98] }) ∧ w'.cell? ⟨g, 7, none⟩ = some (.int .i64 2) ∧ w'.cell? ⟨g, 8, none⟩ = some (.int .i64 1) ∧ Below w.heap.size w w' := by
 refine (All_any w wb al12 hon { data := #[97, 98] } 1 (by decide)).mono ?_
 rintro x w' ⟨v, c, rfl, hb, ⟨hn, _⟩ | ⟨_, rfl, xs, d, hx, hd, _, _, hG⟩⟩
 · have h2 : Go.Proofs.YtncnefpkfbngaaaGreatDoor.rightB [97, 98] 1 = true := by decide +kernel
   rw [show (ByteArray.mk #[97, 98]).data.toList = [97, 98] from rfl, h2] at hn
   cases hn
 · have h1 : rs [97, 98] = some [97, 98] := by decide +kernel
   obtain rfl : [97, 98] = xs := Option.some.inj (h1.symm.trans hx)
   obtain rfl : d = 1 := by omega
   rw [al12_near] at hG
   obtain ⟨g, cap, hv, _, _, hc, hcell⟩ := GOwn.cell hG (by simp)
   exact ⟨g, cap, by rw [hv]; rfl, hc, hcell 2 0 _ _ rfl rfl, hcell 2 1 _ _ rfl rfl, hcell 2 2 _ _ rfl rfl, hb⟩
set_option maxHeartbeats 2000000 in
theorem alive12_any (w : World) (ht : Tabs w) : Calls Tryz.prog 8 #[] w fun e w' => e = .returned (.bool true) ∧ Below w.heap.size w w' := by
 have HT : Hid (Tabs w) := ht
 obtain ⟨W0, hW0⟩ : ∃ W0, w.alloc (.cells #[.string ⟨#[97]⟩, .int .i64 3, .string ⟨#[97, 98]⟩, .int .i64 5, .string ⟨#[98, 98]⟩, .int .i64 2, .string ⟨#[120, 121, 122]⟩, .int .i64 1] 47) = W0 := ⟨_, rfl⟩
 have hb0 : Below w.heap.size w W0 := by rw [← hW0]; exact (Below.refl _ w).alloc (Nat.le_refl _) _
 have HB0 : Hid (Below w.heap.size w W0) := hb0
 obtain ⟨ab, hab⟩ : ∃ ab, w.heap.size = ab := ⟨_, rfl⟩
 have HON : Hid (Calls Tryz.prog 11 #[.slice (some ⟨ab, 0, none⟩) 4 4] W0 fun e w' => ∃ wb, e = .returned (.tuple #[.pointer (some ⟨wb, 0, none⟩), .bool true]) ∧ W0.heap.size ≤ wb ∧ WkOn w' wb al12 ∧ Below W0.heap.size W0 w') := on12_yes W0 (ht.below hb0) _ al12 (by rw [← hW0, ← hab]; exact four_new w (⟨#[97]⟩, 3) (⟨#[97, 98]⟩, 5) (⟨#[98, 98]⟩, 2) (⟨#[120, 121, 122]⟩, 1) _ 4) (by decide) al12_sm al12_on
 have HE : Hid (w.alloc (.cells #[.string ⟨#[97]⟩, .int .i64 3, .string ⟨#[97, 98]⟩, .int .i64 5, .string ⟨#[98, 98]⟩, .int .i64 2, .string ⟨#[120, 121, 122]⟩, .int .i64 1] 47) = W0 ∧ w.heap.size = ab) := ⟨hW0, hab⟩
 have s1 : (({ data := #[98, 98] } : ByteArray).toList == ({ data := #[98, 98] } : ByteArray).toList) = true := by simp
 clear ht hb0 hW0 hab
 go_enter Tryz.func8, Tryz.ntmps8
 go_wp2_with (first
  | (go_at_call 11; rw [HE.out.1, HE.out.2]; refine HON.out.mono ?_; rintro e w1 ⟨wb, rfl, _, hon, hb1⟩; have HB1 : Hid (Below w.heap.size w w1) := HB0.out.trans (hb1.mono HB0.out.size); have HW : Hid (WkOn w1 wb al12) := hon; clear hb1 hon)
  | (go_at_call 12; refine (All_ab w1 wb HW.out).mono ?_; rintro e w2 ⟨g, cap, rfl, hcap, c0, c1, c2, hb2⟩; have HB2 : Hid (Below w.heap.size w w2) := HB1.out.trans (hb2.mono HB1.out.size); clear hb2))
 go_ret
 exact ⟨by first | rfl | simp, HB2.out⟩
end Go.Proofs.YtncnefpkfbngaaaGreatDoor

/- All, as a law asks it. -/
namespace Go.Proofs.YtncnefpkfbngaaaGreatDoor
open Go.RowKit Go.Shelf Go.Lib Nums Fm Pk Pm Fz Ed Lv
set_option maxRecDepth 100000

/-- What All comes to. -/
def allL (l : List Pr) (word : List UInt8) (e : Int) : List Mt := if Go.Proofs.YtncnefpkfbngaaaGreatDoor.rightB word e = true then nearOf ((rs word).getD []) e.toNat l else []
def allC (word : List UInt8) (e : Int) : Int := if Go.Proofs.YtncnefpkfbngaaaGreatDoor.rightB word e = true then 0 else 110
theorem allL_len (l : List Pr) (word : List UInt8) (e : Int) : (allL l word e).length ≤ l.length := by
 unfold allL
 split
 · exact nearOf_len _ _ _
 · exact Nat.zero_le _
theorem AllSays.told {w w' : World} {l : List Pr} {word : List UInt8} {e : Int} {v : Value} {c : Int} (h : AllSays w w' l word e v c) : c = allC word e ∧ GOwn 44 3 w.heap.size w' v ((allL l word e).map cellsM) ∧ Below w.heap.size w w' := by
 obtain ⟨hb, ⟨hr, rfl, rfl⟩ | ⟨hr, rfl, xs, d, hx, rfl, _, _, hG⟩⟩ := h
 · refine ⟨by rw [allC, hr]; rfl, ?_, hb⟩
   rw [allL, hr]
   exact GOwn.nil _ _ _ _
 · refine ⟨by rw [allC, hr]; rfl, ?_, hb⟩
   rw [allL, if_pos hr, hx]
   exact hG
/-- All, as a law asks it. -/
theorem All_told (w : World) (wb : Nat) (l : List Pr) (hon : WkOn w wb l) (word : ByteArray) (e : Int) (hm : word.size ≤ 9223372036854775807) :
 Calls Tryz.prog 12 #[.pointer (some ⟨wb, 0, none⟩), .string word, .int .i64 e] w fun x w' => ∃ ad cap, x = .returned (.tuple #[.slice ad (allL l word.data.toList e).length cap, .int .i64 (allC word.data.toList e)]) ∧ MRow w' (.slice ad (allL l word.data.toList e).length cap) (allL l word.data.toList e) ∧ Below w.heap.size w w' := by
 refine (All_any w wb l hon word e hm).mono ?_
 rintro x w' ⟨v, c, rfl, h⟩
 obtain ⟨rfl, hG, hb⟩ := h.told
 obtain ⟨ad, cap, hv, _⟩ := GOwn.shape hG
 rw [List.length_map] at hv
 subst hv
 exact ⟨ad, cap, rfl, GOwn.reads hG, hb⟩
theorem same12_told (w : World) (u v : Value) (l : List Mt) (h1 : MRow w u l) (h2 : MRow w v l) (hl : l.length < 549755813888) :
 Calls Tryz.prog 9 #[u, v] w fun e w' => e = .returned (.bool true) ∧ Below w.heap.size w w' := by
 refine (same12_any w u v l h1 h2 hl).mono ?_
 rintro e w' ⟨rfl, q, rfl⟩
 exact ⟨rfl, below_drewN (Below.refl _ _) q⟩
end Go.Proofs.YtncnefpkfbngaaaGreatDoor
