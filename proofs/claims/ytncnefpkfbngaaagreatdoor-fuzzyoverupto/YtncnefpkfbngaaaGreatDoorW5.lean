/- Texts that were written apart, joined. -/
import Derived.Test.YtncnefpkfbngaaaGreatDoorJ15
import Derived.Test.YtncnefpkfbngaaaGreatDoorG1
import Derived.Test.YtncnefpkfbngaaaGreatDoorWkC
import Derived.Test.YtncnefpkfbngaaaGreatDoorG7
import Derived.Test.YtncnefpkfbngaaaGreatDoorJ7
import Derived.Test.YtncnefpkfbngaaaGreatDoorG8
import Derived.Test.YtncnefpkfbngaaaGreatDoorG3
/- Cut: what the seat's translation lacks is left out. -/
/- find: an arc by its label. -/
namespace Go.Proofs.YtncnefpkfbngaaaGreatDoor
open Go.RowKit Nums Fm Pk Pm
set_option maxRecDepth 100000

/-- The arc with a label. -/
def fa (l : List RArc) (c : Int) : Option RArc := l.find? fun a => a.label == c
end Go.Proofs.YtncnefpkfbngaaaGreatDoor

/- The reference's Find of layer 6; what a dictionary's list and its machine say of a word. -/
namespace Go.Proofs.YtncnefpkfbngaaaGreatDoor
open Go.RowKit Nums Fm
set_option maxRecDepth 100000

theorem take_succ_at {l : List Pr} {k : Nat} {x : Pr} (h : l[k]? = some x) : l.take (k + 1) = l.take k ++ [x] := by
 rw [List.take_add_one, h]; rfl
set_option maxHeartbeats 2000000 in
theorem refFind_any (w : World) (v : Value) (l : List Pr) (s : ByteArray) (h : PRow w v l) (hl : l.length ≤ 9223372036854775807) :
 Calls Tryz.prog 21 #[v, .string s] w fun e w' => e = .returned (.tuple #[.int .i64 ((Pm.find l s).getD 0), .bool (Pm.find l s).isSome]) ∧ w' = w := by
 obtain ⟨ad, cap, rfl⟩ := h.form
 have HR : Hid (PRow w (.slice ad l.length cap) l) := h
 obtain ⟨n, hn⟩ : ∃ n, l.length = n := ⟨_, rfl⟩
 have HN : Hid (l.length = n) := hn
 obtain ⟨F, hF⟩ : ∃ F, Pm.find l s = F := ⟨_, rfl⟩
 have HF : Hid (Pm.find l s = F) := hF
 rw [hn] at HR hl
 clear h
 rw [hn, hF]
 clear hn hF
 go_enter Tryz.func21, Tryz.ntmps21
 go_wp2
 go_loopg [6] n (fun g s6 wr => ∃ (k : Nat), s6 = .int .i64 ((k : Int) - 1) ∧ k ≤ n ∧ k ≤ g ∧ wr = w ∧ Hid (Pm.find (l.take k) s = F))
 case atStart => exact ⟨n, rfl, Nat.le_refl _, Nat.le_refl _, rfl, by show _ = _; rw [List.take_of_length_le (by have := HN.out; omega)]; exact HF.out⟩
 case round =>
  obtain ⟨k, rfl, hk, hg, rfl, HK⟩ := hrel
  cases k with
  | zero =>
   have HE : Hid (F = none) := by show _ = _; rw [← HK.out]; rfl
   go_wp2
   go_ret2
   rw [HE.out]
   exact ⟨rfl, rfl⟩
  | succ k =>
   have e1 : ((k + 1 : Nat) : Int) - 1 = (k : Int) := by omega
   obtain ⟨x, hx⟩ : ∃ x, l[k]? = some x := ⟨l[k]'(by have := HN.out; omega), List.getElem?_eq_getElem _⟩
   obtain ⟨b, off, rfl, hb, hcell⟩ := HR.out.at (by omega)
   obtain ⟨c0, c1⟩ := hcell k x hx
   have hstep : Pm.find (l.take (k + 1)) s = if x.1 = s then some x.2 else Pm.find (l.take k) s := by rw [take_succ_at hx, Pm.find_snoc]
   have hk0 : (0 : Int) ≤ (k : Int) := by omega
   have hkn : (k : Int) < (n : Int) := by omega
   have ekn : (k : Int).toNat = k := by omega
   clear hx hcell
   by_cases hxs : x.1 = s
   · have hs : (x.1.toList == s.toList) = true := by rw [strEq]; exact decide_eq_true hxs
     have HE : Hid (F = some x.2) := by show _ = _; rw [← HK.out, hstep, if_pos hxs]
     clear hxs hstep
     go_wp2
     go_ret2
     rw [HE.out]
     exact ⟨rfl, rfl⟩
   · have hs : (x.1.toList == s.toList) = false := by rw [strEq]; exact decide_eq_false hxs
     have HE : Hid (Pm.find (l.take k) s = F) := by show _ = _; rw [← HK.out, hstep, if_neg hxs]
     clear hxs hstep
     go_wp2
     go_roundg k
     case measure => omega
     case rel => exact ⟨k, by first | rfl | go_num, by omega, Nat.le_refl _, rfl, HE⟩
end Go.Proofs.YtncnefpkfbngaaaGreatDoor

/- Cut: what the seat's translation lacks is left out. -/
/- Find: a word's weight. -/
namespace Go.Proofs.YtncnefpkfbngaaaGreatDoor
open Go.RowKit Nums Fm Pk Pm
set_option maxRecDepth 100000

theorem built_all {l : List Pr} (h : buildE l = 0) : (∀ x ∈ l, wordB x.1.data.toList = true ∧ 1 ≤ x.2 ∧ x.2 ≤ 1048576) ∧ l.Pairwise (fun a b => lessB a.1 b.1 = true) ∧ l.length ≤ 4096 := by
 unfold buildE at h
 split at h
 · cases h
 · exact ⟨fault_all l none h, (fault_rise l none h).2, by omega⟩
theorem arcs_few {l : List Pr} (h : buildE l = 0) {n : Nat} {s : St} (hs : (machOf l).2[n]? = some s) : (s.arcs.map ofArc).length ≤ 1114112 := by
 have h1 := built_right h
 unfold rightB at h1
 split at h1
 · rename_i h2
   have : (machOf l).2 = [] := by simpa using h2
   rw [this] at hs
   simp at hs
 · simp only [Bool.and_eq_true] at h1
   obtain ⟨⟨⟨⟨⟨_, _⟩, hf⟩, _⟩, _⟩, _⟩ := h1
   have key : ∀ (m : List RSt) (i k : Nat) (t : RSt), formB i m = true → m[k]? = some t → formS t (i + k) = true := fun m => by
    induction m with
    | nil => intro i k t _ hk; simp at hk
    | cons x r ih =>
     intro i k t hf hk
     rw [formB, Bool.and_eq_true] at hf
     cases k with
     | zero => simp at hk; subst hk; exact hf.1
     | succ k => have := ih (i + 1) k t hf.2 (by simpa using hk); rwa [show i + 1 + k = i + (k + 1) by omega] at this
   have h3 := key _ 0 n (ofSt s) hf (by rw [List.getElem?_map, hs]; rfl)
   exact (form_facts h3).2.2
/-- What region 11 looks at. -/
structure S11 (ab : Nat) (o t : Int) (W : World) : Prop where
 c1 : W.cell? ⟨ab, 1, none⟩ = some (.int .i64 o)
 c2 : W.cell? ⟨ab, 2, none⟩ = some (.int .i64 t)
theorem S11.facts {ab : Nat} {o t : Int} {W : World} (h : S11 ab o t W) : W.cell? ⟨ab, 1, none⟩ = some (.int .i64 o) ∧ W.cell? ⟨ab, 2, none⟩ = some (.int .i64 t) := ⟨h.1, h.2⟩
def S4b (wb : Nat) (base : Int) (W : World) : Prop := W.cell? ⟨wb, 0, none⟩ = some (.int .i64 base)
theorem S4b.facts {wb : Nat} {base : Int} {W : World} (h : S4b wb base W) : W.cell? ⟨wb, 0, none⟩ = some (.int .i64 base) := h
end Go.Proofs.YtncnefpkfbngaaaGreatDoor
