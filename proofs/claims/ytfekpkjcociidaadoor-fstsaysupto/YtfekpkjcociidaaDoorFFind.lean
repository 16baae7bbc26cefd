/- The reference's Find of layer 6; what a dictionary's list and its machine say of a word. -/
import Derived.Test.YtfekpkjcociidaaDoorWordsW
namespace Go.Proofs.YtfekpkjcociidaaDoor
open Go.RowKit Nums Fm
set_option maxRecDepth 100000

theorem take_succ_at {l : List Pr} {k : Nat} {x : Pr} (h : l[k]? = some x) : l.take (k + 1) = l.take k ++ [x] := by
  rw [List.take_add_one, h]; rfl
set_option maxHeartbeats 2000000 in
theorem refFind_any (w : World) (v : Value) (l : List Pr) (s : ByteArray) (h : PRow w v l) (hl : l.length ≤ 9223372036854775807) :
    Calls Tryd.prog 18 #[v, .string s] w fun e w' => e = .returned (.tuple #[.int .i64 ((Pm.find l s).getD 0), .bool (Pm.find l s).isSome]) ∧ w' = w := by
  obtain ⟨ad, cap, rfl⟩ := h.form
  have HR : Hid (PRow w (.slice ad l.length cap) l) := h
  obtain ⟨n, hn⟩ : ∃ n, l.length = n := ⟨_, rfl⟩
  have HN : Hid (l.length = n) := hn
  obtain ⟨F, hF⟩ : ∃ F, Pm.find l s = F := ⟨_, rfl⟩
  have HF : Hid (Pm.find l s = F) := hF
  rw [hn] at HR hl
  clear h
  rw [hn, hF]
  clear hn hF
  go_enter Tryd.func18, Tryd.ntmps18
  go_wp2
  go_loopg [6] n (fun g s6 wr => ∃ (k : Nat), s6 = .int .i64 ((k : Int) - 1) ∧ k ≤ n ∧ k ≤ g ∧ wr = w ∧ Hid (Pm.find (l.take k) s = F))
  case atStart => exact ⟨n, rfl, Nat.le_refl _, Nat.le_refl _, rfl, by show _ = _; rw [List.take_of_length_le (by have := HN.out; omega)]; exact HF.out⟩
  case round =>
    obtain ⟨k, rfl, hk, hg, rfl, HK⟩ := hrel
    cases k with
    | zero =>
      have HE : Hid (F = none) := by show _ = _; rw [← HK.out]; rfl
      go_wp2
      go_ret2
      rw [HE.out]
      exact ⟨rfl, rfl⟩
    | succ k =>
      have e1 : ((k + 1 : Nat) : Int) - 1 = (k : Int) := by omega
      obtain ⟨x, hx⟩ : ∃ x, l[k]? = some x := ⟨l[k]'(by have := HN.out; omega), List.getElem?_eq_getElem _⟩
      obtain ⟨b, off, rfl, hb, hcell⟩ := HR.out.at (by omega)
      obtain ⟨c0, c1⟩ := hcell k x hx
      have hstep : Pm.find (l.take (k + 1)) s = if x.1 = s then some x.2 else Pm.find (l.take k) s := by rw [take_succ_at hx, Pm.find_snoc]
      have hk0 : (0 : Int) ≤ (k : Int) := by omega
      have hkn : (k : Int) < (n : Int) := by omega
      have ekn : (k : Int).toNat = k := by omega
      clear hx hcell
      by_cases hxs : x.1 = s
      · have hs : (x.1.toList == s.toList) = true := by rw [strEq]; exact decide_eq_true hxs
        have HE : Hid (F = some x.2) := by show _ = _; rw [← HK.out, hstep, if_pos hxs]
        clear hxs hstep
        go_wp2
        go_ret2
        rw [HE.out]
        exact ⟨rfl, rfl⟩
      · have hs : (x.1.toList == s.toList) = false := by rw [strEq]; exact decide_eq_false hxs
        have HE : Hid (Pm.find (l.take k) s = F) := by show _ = _; rw [← HK.out, hstep, if_neg hxs]
        clear hxs hstep
        go_wp2
        go_roundg k
        case measure => omega
        case rel => exact ⟨k, by first | rfl | go_num, by omega, Nat.le_refl _, rfl, HE⟩
theorem find_some_of {l : List Pr} {x : Pr} (h : x ∈ l) : Pm.find l x.1 ≠ none := by
  induction l with
  | nil => cases h
  | cons y r ih =>
    rw [Pm.find_cons]
    rcases List.mem_cons.1 h with rfl | h
    · cases Pm.find r x.1 <;> simp
    · cases hf : Pm.find r x.1 with
      | none => exact absurd hf (ih h)
      | some v => simp
theorem wt_find : ∀ {S : List En} {xs : List Int} {n : Int}, wt xs S = some n → (xs, n) ∈ S
  | [], _, _, h => by cases h
  | e :: r, xs, n, h => by
    rw [wt_cons] at h
    split at h
    · rename_i he
      have : e = (xs, n) := Prod.ext he (Option.some.inj h)
      rw [this]; simp
    · exact .tail _ (wt_find h)
theorem find_wt {l : List Pr} (hd : DictOk l) {s : ByteArray} {xs : List Int} (hs : rs s.data.toList = some xs) : Pm.find l s = wt xs (ents l) := by
  cases hf : Pm.find l s with
  | some v =>
    have hm := Pm.find_mem hf
    exact (wt_mem hd.rise (List.mem_map.2 ⟨(s, v), hm, by rw [entOf, hs]; rfl⟩)).symm
  | none =>
    cases hw : wt xs (ents l) with
    | none => rfl
    | some n =>
      exfalso
      obtain ⟨x, hx, he⟩ := List.mem_map.1 (wt_find hw)
      obtain ⟨ys, h1, _⟩ := hd.wd x hx
      rw [entOf, h1] at he
      have hy : ys = xs := (Prod.mk.inj he).1
      subst hy
      have e1 := (rs_write h1).2
      have e2 := (rs_write hs).2
      have : x.1 = s := ba_ext (e1.symm.trans e2)
      rw [← this] at hf
      exact find_some_of hx hf
end Go.Proofs.YtfekpkjcociidaaDoor
