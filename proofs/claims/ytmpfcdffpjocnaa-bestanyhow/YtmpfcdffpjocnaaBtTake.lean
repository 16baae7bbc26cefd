/- The keeper's Take. -/
import Derived.Test.YtmpfcdffpjocnaaBtAdd
namespace Go.Proofs.Ytmpfcdffpjocnaa
open Go.RowKit Go.Lib Nums Pm
set_option maxRecDepth 100000
namespace Bt
theorem made_flat (a b c : Value) (n : Nat) : (madeCells #[a, b, c] (n * 3)).toList = (List.replicate n [a, b, c]).flatten := by
  apply List.ext_getElem?
  intro q
  by_cases hq : q < n * 3
  · have e : q = (q / 3) * 3 + q % 3 := by omega
    have h3 : q % 3 < 3 := Nat.mod_lt _ (by decide)
    have h1 : (List.replicate n [a, b, c])[q / 3]? = some [a, b, c] := by rw [List.getElem?_replicate, if_pos (by omega)]
    obtain ⟨u, hu⟩ : ∃ u, [a, b, c][q % 3]? = some u := ⟨[a, b, c][q % 3], List.getElem?_eq_getElem (by simpa using h3)⟩
    have h2 := flat_get (k := 3) (List.replicate n [a, b, c]) (fun x hx => by rw [List.eq_of_mem_replicate hx]; rfl) (q / 3) (q % 3) _ u h1 hu
    rw [← e] at h2
    rw [h2]
    have h4 : q % 3 = 0 ∨ q % 3 = 1 ∨ q % 3 = 2 := by omega
    simp only [madeCells]
    rcases h4 with h4 | h4 | h4 <;> rw [h4] at hu <;> simp [hq, h4] at hu ⊢ <;> exact hu
  · rw [List.getElem?_eq_none (by simp [madeCells]; omega), List.getElem?_eq_none (by simp; omega)]
/-- What is known while the list is filled: the last ones of out lie there, the first k are still kept. -/
structure TkR (B : Nat) (w : World) (p : Nat) (room : Int) (v : Value) (out : List Mt) (lb n k : Nat) (wr : World) (h : List Mt) (vk : Value) (xs : List (List Value)) : Prop where
  K : KAt B wr p room vk h
  own : vk.ownBlock = v.ownBlock
  kp : Kp room.toNat (out.take k) h
  row : GOwn 23 3 w.heap.size wr (.slice (some ⟨lb, 0, none⟩) n n) xs
  len : xs.length = n
  dn : xs.drop k = (out.drop k).map cellsM
  up : Upd (KF p v) w wr
  lbg : w.heap.size ≤ lb
  hlt : ∀ k, KF p v k → k < w.heap.size
theorem TkR.put {B : Nat} {w : World} {p : Nat} {room : Int} {v : Value} {out : List Mt} {lb n k : Nat} {wr w1 : World} {h h1 : List Mt} {vk v1 : Value} {xs : List (List Value)} (R : TkR B w p room v out lb n (k + 1) wr h vk xs) (hout : out.length = n) (hkn : k < n)
    (K1 : KAt B w1 p room v1 h1) (u1 : Upd (KF p vk) wr w1) (hx1 : v1.ownBlock = vk.ownBlock) (hp1 : (el h 0 :: h1).Perm h) (hh1 : Hp h1.length h1) :
    ∃ W, storeM Try.prog (.pointer (some ⟨lb, k * 3, none⟩)) (valM (el h 0)) w1 = .ok () W ∧ TkR B w p room v out lb n k W h1 v1 (xs.set k (cellsM (el h 0))) := by
  have hlb : ∀ j, KF p v j → ¬ j = lb := fun j hj => by have := R.hlt j hj; have := R.lbg; omega
  have e1 : KF p vk = KF p v := by funext j; unfold KF; rw [R.own]
  have e2 : KF p v1 = KF p v := by funext j; unfold KF; rw [hx1, R.own]
  rw [e1] at u1
  have hrow1 : GOwn 23 3 w.heap.size w1 (.slice (some ⟨lb, 0, none⟩) n n) xs := GOwn.upd R.row u1 (fun g hg f => hlb g f (by simpa [Value.ownBlock] using hg.symm))
  have hput := GOwn.put hrow1 R.len.symm k (by rw [R.len]; exact hkn) (cellsM (el h 0)) (cellsM_ok _)
  obtain ⟨g, cap, hv, _, _, _, hc⟩ := hrow1.cell (by rw [R.len]; omega)
  simp only [Value.slice.injEq, Option.some.injEq, Addr.mk.injEq, and_true] at hv
  obtain ⟨rfl, _, _⟩ := hv
  obtain ⟨x, hxk⟩ : ∃ x, xs[k]? = some x := ⟨_, List.getElem?_eq_getElem (by rw [R.len]; exact hkn)⟩
  have hck := (R.row.1 x (List.mem_of_getElem? hxk)).1
  obtain ⟨y0, y1, y2, rfl⟩ : ∃ a b c, x = [a, b, c] := by
    match x, hck with
    | [a, b, c], _ => exact ⟨a, b, c, rfl⟩
  have hf : ∀ j, w1.frozen? ⟨lb, j, none⟩ = false := fun j => by
    have := hrow1.2
    rw [R.len] at this
    exact this.frozenAt j
  obtain ⟨ini, hini⟩ := R.kp.worst (by have := R.kp.same_len; rw [List.length_take] at this; omega)
  have hlen : (out.take (k + 1)).length = k + 1 := by rw [List.length_take]; omega
  have hil : ini.length = k := by rw [hini] at hlen; simpa using hlen
  have htk : out.take k = ini := by
    have : (out.take (k + 1)).take k = ini := by rw [hini]; exact List.take_left' hil
    rw [List.take_take, Nat.min_eq_left (by omega)] at this
    exact this
  have hel : out[k]? = some (el h 0) := by
    have : (out.take (k + 1))[k]? = some (el h 0) := by rw [hini, List.getElem?_append_right (by omega), hil]; simp
    rwa [List.getElem?_take, if_pos (by omega)] at this
  have hupd : Upd (fun j => j = lb) w1 (w1.setCells lb (k * 3) (cellsM (el h 0))) := Upd.setCells (F := fun j => j = lb) rfl _ _ (Upd.refl _ _)
  have hu2 : Upd (KF p v) w w1 := R.up.trans u1 (fun _ _ f => f)
  refine ⟨_, storeM_at (hc k 0 _ _ hxk rfl) (hc k 1 _ _ hxk rfl) (hc k 2 _ _ hxk rfl) (hf _) (hf _) (hf _), ⟨K1.upd hupd (fun j hj => hlb j (e2 ▸ hj)), hx1.trans R.own, ?_, hput, by rw [List.length_set]; exact R.len, ?_, ?_, R.lbg, R.hlt⟩⟩
  · rw [htk]
    have := R.kp
    rw [hini] at this
    exact this.less hh1 hp1
  · have hd : xs.drop (k + 1) = (out.drop (k + 1)).map cellsM := R.dn
    have hk1 : k < (xs.set k (cellsM (el h 0))).length := by rw [List.length_set, R.len]; exact hkn
    have hk2 : k < out.length := by omega
    rw [List.drop_eq_getElem_cons hk1, List.drop_eq_getElem_cons hk2, List.getElem_set_self, List.drop_set_of_lt (by omega), hd, List.map_cons]
    have : out[k] = el h 0 := by rw [List.getElem?_eq_getElem hk2] at hel; exact Option.some.inj hel
    rw [this]
  · exact ⟨hupd.os.trans hu2.os, hupd.tape.trans hu2.tape, hupd.output.trans hu2.output, Nat.le_trans hu2.size hupd.size, fun j hj hfj => (hupd.block j (Nat.lt_of_lt_of_le hj hu2.size) (by have := R.lbg; show ¬ j = lb; omega)).trans (hu2.block j hj hfj)⟩
attribute [local go_sem ↓] exec_load_M exec_store_M
set_option maxHeartbeats 1000000 in
theorem Take_any (B : Nat) (w : World) (p : Nat) (room : Int) (v : Value) (h out : List Mt) (K : KAt B w p room v h) (KP : Kp room.toNat out h) (hr : room ≤ 64) :
    Calls Try.prog 20 #[.pointer (some ⟨p, 0, none⟩)] w fun e w' => ∃ vl, e = .returned vl ∧ GOwn 23 3 w.heap.size w' vl (out.map cellsM) ∧ Upd (KF p v) w w' ∧ ∃ v', KAt B w' p room v' [] ∧ v'.ownBlock = v.ownBlock := by
  have hlo := KP.same_len
  have hlen := KP.len
  have HL : Hid (Calls Try.prog 18 #[.pointer (some ⟨p, 0, none⟩)] w fun e w' => e = .returned (.int .i64 h.length) ∧ w' = w) := Klen_any B w p room v h K
  obtain ⟨n, hn⟩ : ∃ n, h.length = n := ⟨_, rfl⟩
  rw [hn] at HL hlo
  have HO : Hid (out.length = n) := hlo.symm
  obtain ⟨z, hz, hzs⟩ := rtyM.inf
  obtain ⟨i0, hi, hz0, hz1, hz2⟩ := info_parts hz
  have hzz : z = .agg #[.string .empty, .int .i64 0, .int .i64 0] := by
    have h1 : (Try.prog.info? 23).map (fun i => i.zero) = some (some (.agg #[.string .empty, .int .i64 0, .int .i64 0])) := by kernel_rfl
    rw [hi] at h1
    simp only [Option.map_some, Option.some.injEq] at h1
    rw [hz0] at h1
    exact Option.some.inj h1
  have hn64 : n ≤ 64 := by omega
  obtain ⟨W0, hmk, hown, hgr⟩ := run_make_full (P := Try.prog) w w.heap.size 27 23 i0 z 3 rtyM.und hi hz0 hz1 .i64 .i64 n (by rw [hz2]; omega) (by simp only [maxLen]; omega) (Nat.le_refl _)
  have hb0 : Below w.heap.size w W0 := (Below.refl _ w).grown hgr (Nat.le_refl _) (fun k e => by cases e)
  obtain ⟨lb, hlb⟩ : ∃ lb, w.heap.size = lb := ⟨_, rfl⟩
  have HR0 : Hid (TkR B w p room v out lb n n W0 h v (List.replicate n (cellsM (.empty, 0, 0)))) := by
    have hlt : ∀ k, KF p v k → k < w.heap.size := fun k hk => by
      rcases hk with rfl | hk
      · exact K.lt
      · exact K.row.lt hk
    refine ⟨K.below hb0, rfl, ?_, ⟨fun x hx => ?_, ?_⟩, by simp, ?_, upd_of_below hb0, by omega, hlt⟩
    · rw [List.take_of_length_le (by omega)]; exact KP
    · rw [List.eq_of_mem_replicate hx]; exact cellsM_ok _
    · have e := made_flat (.string .empty) (.int .i64 0) (.int .i64 0) n
      rw [hzz, hlb] at hown
      rw [List.length_replicate]
      have e2 : (Value.agg #[.string .empty, .int .i64 0, .int .i64 0]).cells = #[.string .empty, .int .i64 0, .int .i64 0] := rfl
      rw [e2, e] at hown
      rw [hlb]
      exact hown
    · rw [List.drop_of_length_le (by simp), List.drop_of_length_le (by omega)]; rfl
  rw [hlb] at hmk
  have HN : Hid (h.length = n) := hn
  clear K KP hlo hlen hn hz hzs hi hz0 hz1 hz2 hzz hown hgr hb0 hr
  go_enter Try.func20, Try.ntmps20
  go_wp2_with (go_at_call 18; refine HL.out.mono ?_; rintro e w2 ⟨rfl, hw2⟩; replace hw2 := hw2.symm; subst hw2)
  clear hmk
  go_loopg [4] n (fun g s4 wr => ∃ (k : Nat) (h' : List Mt) (vk : Value) (xs : List (List Value)), s4 = .int .i64 ((k : Int) - 1) ∧ k ≤ n ∧ k ≤ g ∧ Hid (TkR B w p room v out lb n k wr h' vk xs))
  case atStart => exact ⟨n, h, v, _, by first | rfl | go_num, Nat.le_refl _, Nat.le_refl _, HR0⟩
  case round =>
    obtain ⟨k, h', vk, xs, hs4, hkn, hkg, HR⟩ := hrel
    cases k with
    | zero =>
      have e : u4 = .int .i64 (-1) := by rw [hs4]; rfl
      subst e
      clear hs4
      go_wp2
      go_ret
      have hx : xs = out.map cellsM := by have := HR.out.dn; rwa [List.drop_zero, List.drop_zero] at this
      have hh : h' = [] := List.length_eq_zero_iff.1 (by have := HR.out.kp.same_len; rw [List.take_zero] at this; simpa using this)
      have hrow := HR.out.row
      have hK := HR.out.K
      rw [hx] at hrow
      rw [hh] at hK
      exact ⟨_, rfl, hrow, HR.out.up, vk, hK, HR.out.own⟩
    | succ j =>
      have e : u4 = .int .i64 (j : Int) := by rw [hs4]; congr 1; omega
      subst e
      clear hs4
      have hjn : (j : Int) < (n : Int) := by omega
      have hl' : h'.length = j + 1 := by have := HR.out.kp.same_len; rw [List.length_take] at this; have := HO.out; omega
      have HTW : Hid (Calls Try.prog 23 #[.pointer (some ⟨p, 0, none⟩)] wr fun e w' => e = .returned (valM (el h' 0)) ∧ ∃ v' h2, KAt B w' p room v' h2 ∧ Upd (KF p vk) wr w' ∧ v'.ownBlock = vk.ownBlock ∧ (el h' 0 :: h2).Perm h' ∧ Hp h2.length h2 ∧ h2.length = j) := takeWorst_any B wr p room vk h' j HR.out.K HR.out.kp.hp hl' (by omega)
      clear hl'
      go_wp2_with (go_at_call 23; refine HTW.out.mono ?_; rintro e w1 ⟨rfl, v1, h1, hK1, hu1, hx1, hp1, hh1, hl1⟩; obtain ⟨W, hst, hR⟩ := HR.out.put HO.out (by omega) hK1 hu1 hx1 hp1 hh1; have HR1 : Hid (TkR B w p room v out lb n j W h1 v1 (xs.set j (cellsM (el h' 0)))) := hR; clear hK1 hu1 hx1 hp1 hh1 hl1 hR)
      go_roundg j
      case measure => omega
      case rel => exact ⟨j, h1, v1, _, by first | rfl | go_num, by omega, Nat.le_refl _, HR1⟩
end Bt
end Go.Proofs.Ytmpfcdffpjocnaa
