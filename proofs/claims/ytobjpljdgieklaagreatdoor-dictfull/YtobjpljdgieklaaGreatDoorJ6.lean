import Derived.Test.YtobjpljdgieklaaGreatDoorJ4
import Derived.WalkSmall
set_option maxRecDepth 100000
namespace Go.Proofs.YtobjpljdgieklaaGreatDoor
section
open Go.RowKit Nums
theorem zQ7:(Tryz.prog.info? 21).map (fun i=>(i.zero,i.size,i.bytes))=some (some (.int .i32 0),1,4):=by kernel_rfl
def Made(B:Nat)(w:World)(v:Value)(xs:List Int):Prop:=w.ownsRow B 21 1 v xs.length (xs.map (Value.int .i32))
theorem Made.below{B:Nat}{w w':World}{v:Value}{xs:List Int}(h:Made B w v xs)(hb:Below w.heap.size w w'):Made B w' v xs:=by
 obtain⟨hl,hn|⟨g,cap,cur,rfl,h1,hg,h2⟩⟩:=h
 · exact⟨hl,.inl hn⟩
 · exact⟨hl,.inr ⟨g,cap,cur,rfl,h1,(hb.block g (Array.getElem?_eq_some_iff.1 hg).1).trans hg,h2⟩⟩
theorem zRn(w:World)(r:Int):(w.alloc (Obj.cells #[Value.int .i32 r] 21)).cell? ⟨w.heap.size,0,none⟩=some (.int .i32 r):=by simp
set_option maxHeartbeats 2000000 in
theorem zF9(s:ByteArray)(w:World)(ht:Tabs w)(hm:s.size≤9223372036854775807)(hroom:Room s.data.toList):
 Calls Tryz.prog 71 #[.string s] w fun e w'=>∃v,Below w.heap.size w w' ∧
  ((rs s.data.toList=none∧v = .slice none 0 0∧e = .returned (.tuple #[v,.bool false])) ∨
   ∃xs,rs s.data.toList=some xs∧e = .returned (.tuple #[v,.bool true])∧Made w.heap.size w' v xs):=by
 obtain⟨i0,hi,hz0,hz1,hz2⟩:=info_parts zQ7;go_enter Tryz.func71,Tryz.ntmps71;go_wp2
 go_loopw [0,4] (fun t v wr=>∃(m:ByteArray) (pre:List Int),t = .string m∧m.size+pre.length≤s.size∧Made w.heap.size wr v pre∧zA1 s.data.toList m.data.toList pre∧Below w.heap.size w wr)
  (fun t _ _=>zSq t)
 case atStart=>exact⟨s,[],rfl,by simp,World.ownsRow_nil _ _ _ _,zGs _,Below.refl _ _⟩
 case round=>
  obtain⟨m,pre,rfl,hms,hown,hL,hbel⟩:=hrel;have HL:Hid (zA1 s.data.toList m.data.toList pre):=hL;clear hL;have htr:Tabs wr:=ht.below hbel;by_cases h0:0<m.size
  · have hne:=zEr h0
    have hbd:=zSg hne;rw[zAg]at hbd;have HNE:Hid (m.data.toList≠[]):=hne;clear hne;generalize hr:rd m.data.toList=q at hbd;obtain⟨r,n⟩:=q;have HR:Hid (rd m.data.toList=(r,n)):=hr;clear hr;simp only at hbd;by_cases hn:n=0
    · subst hn
      have HF:Hid (rs s.data.toList=none):=zH8 HL.out HNE.out (by rw[HR.out]);go_wp2_with (go_at_call 93;refine(zBs _ _ htr h0 (by omega)).mono ?_;rintro e w' ⟨rfl,n2,rfl⟩;rw[HR.out]);go_ret2;exact⟨_,below_drewN hbel _,.inl ⟨HF.out,rfl,rfl⟩⟩
    have hn0:((n:Int)==0)=false:=beq_eq_false_iff_ne.2 (by omega);have hrm:pre.length+1≤35184372088832:=hroom m.data.toList pre HL.out (by rw[zAg,zAg];exact hms) HNE.out (by rw[HR.out];exact hn)
    go_wp2_with (first
     |(go_at_call 93;refine(zBs _ _ htr h0 (by omega)).mono ?_;rintro e w' ⟨rfl,n2,rfl⟩;rw[HR.out])
     |(at_builtin;refine wpList_append_own _ rfl _ _ 122 rfl w.heap.size 21 i0 (.int .i32 0) 1 4 Tryz.underlying122 hi hz0 hz1 hz2 rfl (by decide) _ _ _ rfl (World.ownsRow.alloc (w:=wr.drewN _) hown _) ⟨wr.heap.size,0,none⟩ 1 1 [.int .i32 r] rfl rfl ?c1 ?c2 ?c3 ?c4 ?c5 ?_))
    case c1=>
     intro j u hj
     match j,hj with
     |0,hj=>simp at hj;subst hj;exact zRn (wr.drewN n2) r
    (case c2=>intro u hu;simp at hu;subst hu;rfl);(case c3=>unfold maxLen;omega);(case c4=>omega);(case c5=>have:=hbel.size;simp;omega);intro v' w1 hown' hgrow _;(have hown2:Made w.heap.size w1 v' (pre++[r]):=by unfold Made;simpa using hown');have hb1:Below w.heap.size w w1:=((below_drewN hbel n2).alloc (by simpa using hbel.size) _).grown hgrow (by have:=hbel.size;simp;omega) (fun k hk=>(World.ownsRow.lt hown k hk).1);clear hown' hgrow hown;go_wp2
    go_roundw
    (case rel=>exact⟨m.extract n m.size,pre++[r],rfl,by rw[zBt];simp;omega,hown2,zOn HL.out HNE.out HR.out hn,hb1⟩);case measure=>simp only[zSq];rw[zBt];omega
  · have HN:Hid (m.data.toList=[]):=zE6 h0
    have HF:Hid (rs s.data.toList=some pre):=zLb (by have:=HL.out;rw[HN.out]at this;exact this);go_wp2;go_ret2;exact⟨_,hbel,.inr ⟨pre,HF.out,rfl,hown⟩⟩
end
section
open Go.RowKit Nums
set_option maxHeartbeats 400000 in
theorem zG9(r:Int)(w:World)(ht:Tabs w):Calls Tryz.prog 194 #[.int .i32 r] w fun e w'=>e = .returned (.int .i64 (sz r))∧w'=w:=by
 obtain⟨_,_,_,_,_,t2,t3,t4⟩:=ht;go_enter Tryz.func194,Tryz.ntmps194;go_wp2
 go_loop [3] (fun n=>∃k:Nat,1≤k∧k≤4∧n = .int .i64 k∧(2≤k→128≤r)∧(3≤k→2048≤r)∧(4≤k→65536≤r)) (fun n=>4-(intOf n).toNat)
 case atStart=>exact⟨1,by omega,by omega,rfl,by omega,by omega,by omega⟩
 case round=>
  obtain⟨k,hk1,hk4,rfl,g2,g3,g4⟩:=hrel;obtain rfl|rfl|rfl|rfl:k=1∨k=2∨k=3∨k=4:=by omega
  · by_cases h:128≤r
    · go_wp2
      go_round
      (case rel=>exact⟨2,by omega,by omega,rfl,by omega,by omega,by omega⟩);case measure=>simp[intOf]
    · go_wp2
      go_ret;exact⟨zBz (by unfold sz;repeat' split;all_goals omega),rfl⟩
  · by_cases h:2048≤r
    · go_wp2
      go_round
      (case rel=>exact⟨3,by omega,by omega,rfl,by omega,by omega,by omega⟩);case measure=>simp[intOf]
    · go_wp2
      go_ret;exact⟨zBz (by unfold sz;repeat' split;all_goals omega),rfl⟩
  · by_cases h:65536≤r
    · go_wp2
      go_round
      (case rel=>exact⟨4,by omega,by omega,rfl,by omega,by omega,by omega⟩);case measure=>simp[intOf]
    · go_wp2
      go_ret;exact⟨zBz (by unfold sz;repeat' split;all_goals omega),rfl⟩
  · go_wp2
    go_ret;exact⟨zBz (by unfold sz;repeat' split;all_goals omega),rfl⟩
end
section
open Go.RowKit Nums
theorem zFx:(Tryz.prog.info? 5).map (fun i=>(i.zero,i.size,i.bytes))=some (some (.int .u8 0),1,1):=by kernel_rfl
def Bytes(B:Nat)(w:World)(v:Value)(xs:List Int):Prop:=w.ownsRow B 5 1 v xs.length (xs.map (Value.int .u8))
set_option maxHeartbeats 2000000 in
theorem zNt(B:Nat)(vb:Value)(xs:List Int)(r:Int)(w:World)(ht:Tabs w)(hown:Bytes B w vb xs)(hB:B≤w.heap.size)(hl:xs.length+4≤140737488355328)(h0:0≤r)(h1:r<128):
 Calls Tryz.prog 176 #[vb,.int .i32 r] w fun e w'=>∃v',e = .returned v'∧Bytes B w' v' (xs++[r])∧Below B w w':=by
 have HS:Hid (sz r=1):=sz1 h0 h1;obtain⟨i0,hi,hz0,hz1,hz2⟩:=info_parts zFx;obtain⟨c2,c3,c4,c1,t1,t2,t3,t4⟩:=id ht;have b2:=zAq c2;have htA:∀o,Tabs (w.alloc o):=fun o=>ht.below ((Below.refl _ _).alloc (Nat.le_refl _) o)
 have HTA:Hid (∀o,Tabs (w.alloc o)):=htA;clear htA;go_enter Tryz.func176,Tryz.ntmps176;go_wp2_with (first|(go_at_call 194;refine(zG9 _ _ (HTA.out _)).mono ?_;rintro e w' ⟨rfl,rfl⟩;rw[HS.out]));refine wp_loop_rounds 1 ?_;rw[rounds_succ];go_wp2_with (at_builtin;refine wpList_append_own _ rfl _ _ 68 rfl B 5 i0 (.int .u8 0) 1 1 Tryz.underlying68 hi hz0 hz1 hz2 rfl (by decide) _ _ _ rfl (World.ownsRow.alloc hown _) ⟨w.heap.size,0,none⟩ 1 4 [.int .u8 (r)] rfl rfl ?c1 ?c2 ?c3 ?c4 ?c5 ?_)
 case c1=>
  intro j u hj
  match j,hj with
  |0,hj=>simp at hj;subst hj;simp[Addr.add]
 case c2=>intro u hu;simp at hu;subst hu;rfl
 case c3=>unfold maxLen;omega
 case c4=>omega
 case c5=>simp;omega
 intro v' w1 hown' hgrow _;have hb:Below B w w1:=((Below.refl B w).alloc hB _).grown hgrow (by simp;omega) (fun k hk=>(World.ownsRow.lt hown k hk).1);have hown2:Bytes B w1 v' (xs++[r]):=by unfold Bytes;simpa using hown'
 clear hown' hgrow hown;go_wp2;go_ret;exact⟨_,rfl,hown2,hb⟩
set_option maxHeartbeats 2000000 in
theorem zNs(B:Nat)(vb:Value)(xs:List Int)(r:Int)(w:World)(ht:Tabs w)(hown:Bytes B w vb xs)(hB:B≤w.heap.size)(hl:xs.length+4≤140737488355328)(h0:128≤r)(h1:r<2048):
 Calls Tryz.prog 176 #[vb,.int .i32 r] w fun e w'=>∃v',e = .returned v'∧Bytes B w' v' (xs++[192+r/64,128+r%64])∧Below B w w':=by
 have HS:Hid (sz r=2):=sz2 h0 h1;obtain⟨i0,hi,hz0,hz1,hz2⟩:=info_parts zFx;obtain⟨c2,c3,c4,c1,t1,t2,t3,t4⟩:=id ht;have b2:=zAq c2;have htA:∀o,Tabs (w.alloc o):=fun o=>ht.below ((Below.refl _ _).alloc (Nat.le_refl _) o)
 have HTA:Hid (∀o,Tabs (w.alloc o)):=htA;clear htA;go_enter Tryz.func176,Tryz.ntmps176;go_wp2_with (first|(go_at_call 194;refine(zG9 _ _ (HTA.out _)).mono ?_;rintro e w' ⟨rfl,rfl⟩;rw[HS.out]));refine wp_loop_rounds 2 ?_;rw[rounds_succ];go_wp2;rw[rounds_succ];go_wp2_with (at_builtin;refine wpList_append_own _ rfl _ _ 68 rfl B 5 i0 (.int .u8 0) 1 1 Tryz.underlying68 hi hz0 hz1 hz2 rfl (by decide) _ _ _ rfl (World.ownsRow.alloc hown _) ⟨w.heap.size,0,none⟩ 2 4 [.int .u8 (192+r/64),.int .u8 (128+r%64)] rfl rfl ?c1 ?c2 ?c3 ?c4 ?c5 ?_)
 case c1=>
  intro j u hj
  match j,hj with
  |0,hj=>simp at hj;subst hj;simp[Addr.add]
  |1,hj=>simp at hj;subst hj;simp[Addr.add]
 case c2=>intro u hu;simp at hu;rcases hu with rfl|rfl<;>rfl
 case c3=>unfold maxLen;omega
 case c4=>omega
 case c5=>simp;omega
 intro v' w1 hown' hgrow _;have hb:Below B w w1:=((Below.refl B w).alloc hB _).grown hgrow (by simp;omega) (fun k hk=>(World.ownsRow.lt hown k hk).1);have hown2:Bytes B w1 v' (xs++[192+r/64,128+r%64]):=by unfold Bytes;simpa using hown'
 clear hown' hgrow hown;go_wp2;go_ret;exact⟨_,rfl,hown2,hb⟩
set_option maxHeartbeats 2000000 in
theorem zNr(B:Nat)(vb:Value)(xs:List Int)(r:Int)(w:World)(ht:Tabs w)(hown:Bytes B w vb xs)(hB:B≤w.heap.size)(hl:xs.length+4≤140737488355328)(h0:2048≤r)(h1:r<65536):
 Calls Tryz.prog 176 #[vb,.int .i32 r] w fun e w'=>∃v',e = .returned v'∧Bytes B w' v' (xs++[224+r/64/64,128+r/64%64,128+r%64])∧Below B w w':=by
 have HS:Hid (sz r=3):=sz3 h0 h1;obtain⟨i0,hi,hz0,hz1,hz2⟩:=info_parts zFx;obtain⟨c2,c3,c4,c1,t1,t2,t3,t4⟩:=id ht;have b2:=zAq c2;have htA:∀o,Tabs (w.alloc o):=fun o=>ht.below ((Below.refl _ _).alloc (Nat.le_refl _) o)
 have HTA:Hid (∀o,Tabs (w.alloc o)):=htA;clear htA;go_enter Tryz.func176,Tryz.ntmps176;go_wp2_with (first|(go_at_call 194;refine(zG9 _ _ (HTA.out _)).mono ?_;rintro e w' ⟨rfl,rfl⟩;rw[HS.out]));refine wp_loop_rounds 3 ?_;rw[rounds_succ];go_wp2;rw[rounds_succ];go_wp2;rw[rounds_succ];go_wp2_with (at_builtin;refine wpList_append_own _ rfl _ _ 68 rfl B 5 i0 (.int .u8 0) 1 1 Tryz.underlying68 hi hz0 hz1 hz2 rfl (by decide) _ _ _ rfl (World.ownsRow.alloc hown _) ⟨w.heap.size,0,none⟩ 3 4 [.int .u8 (224+r/64/64),.int .u8 (128+r/64%64),.int .u8 (128+r%64)] rfl rfl ?c1 ?c2 ?c3 ?c4 ?c5 ?_)
 case c1=>
  intro j u hj
  match j,hj with
  |0,hj=>simp at hj;subst hj;simp[Addr.add]
  |1,hj=>simp at hj;subst hj;simp[Addr.add]
  |2,hj=>simp at hj;subst hj;simp[Addr.add]
 case c2=>intro u hu;simp at hu;rcases hu with rfl|rfl|rfl<;>rfl
 case c3=>unfold maxLen;omega
 case c4=>omega
 case c5=>simp;omega
 intro v' w1 hown' hgrow _;have hb:Below B w w1:=((Below.refl B w).alloc hB _).grown hgrow (by simp;omega) (fun k hk=>(World.ownsRow.lt hown k hk).1);have hown2:Bytes B w1 v' (xs++[224+r/64/64,128+r/64%64,128+r%64]):=by unfold Bytes;simpa using hown'
 clear hown' hgrow hown;go_wp2;go_ret;exact⟨_,rfl,hown2,hb⟩
set_option maxHeartbeats 2000000 in
theorem zNq(B:Nat)(vb:Value)(xs:List Int)(r:Int)(w:World)(ht:Tabs w)(hown:Bytes B w vb xs)(hB:B≤w.heap.size)(hl:xs.length+4≤140737488355328)(h0:65536≤r)(h1:r<1114112):
 Calls Tryz.prog 176 #[vb,.int .i32 r] w fun e w'=>∃v',e = .returned v'∧Bytes B w' v' (xs++[240+r/64/64/64,128+r/64/64%64,128+r/64%64,128+r%64])∧Below B w w':=by
 have HS:Hid (sz r=4):=sz4 h0 h1;obtain⟨i0,hi,hz0,hz1,hz2⟩:=info_parts zFx;obtain⟨c2,c3,c4,c1,t1,t2,t3,t4⟩:=id ht;have b2:=zAq c2;have htA:∀o,Tabs (w.alloc o):=fun o=>ht.below ((Below.refl _ _).alloc (Nat.le_refl _) o)
 have HTA:Hid (∀o,Tabs (w.alloc o)):=htA;clear htA;go_enter Tryz.func176,Tryz.ntmps176;go_wp2_with (first|(go_at_call 194;refine(zG9 _ _ (HTA.out _)).mono ?_;rintro e w' ⟨rfl,rfl⟩;rw[HS.out]));refine wp_loop_rounds 4 ?_;rw[rounds_succ];go_wp2;rw[rounds_succ];go_wp2;rw[rounds_succ];go_wp2;rw[rounds_succ];go_wp2_with (at_builtin;refine wpList_append_own _ rfl _ _ 68 rfl B 5 i0 (.int .u8 0) 1 1 Tryz.underlying68 hi hz0 hz1 hz2 rfl (by decide) _ _ _ rfl (World.ownsRow.alloc hown _) ⟨w.heap.size,0,none⟩ 4 4 [.int .u8 (240+r/64/64/64),.int .u8 (128+r/64/64%64),.int .u8 (128+r/64%64),.int .u8 (128+r%64)] rfl rfl ?c1 ?c2 ?c3 ?c4 ?c5 ?_)
 case c1=>
  intro j u hj
  match j,hj with
  |0,hj=>simp at hj;subst hj;simp[Addr.add]
  |1,hj=>simp at hj;subst hj;simp[Addr.add]
  |2,hj=>simp at hj;subst hj;simp[Addr.add]
  |3,hj=>simp at hj;subst hj;simp[Addr.add]
 case c2=>intro u hu;simp at hu;rcases hu with rfl|rfl|rfl|rfl<;>rfl
 case c3=>unfold maxLen;omega
 case c4=>omega
 case c5=>simp;omega
 intro v' w1 hown' hgrow _;have hb:Below B w w1:=((Below.refl B w).alloc hB _).grown hgrow (by simp;omega) (fun k hk=>(World.ownsRow.lt hown k hk).1);have hown2:Bytes B w1 v' (xs++[240+r/64/64/64,128+r/64/64%64,128+r/64%64,128+r%64]):=by unfold Bytes;simpa using hown'
 clear hown' hgrow hown;go_wp2;go_ret;exact⟨_,rfl,hown2,hb⟩
theorem zJa(B:Nat)(vb:Value)(xs:List Int)(r:Int)(w:World)(ht:Tabs w)(hown:Bytes B w vb xs)(hB:B≤w.heap.size)(hl:xs.length+4≤140737488355328)(h0:0≤r)(h1:r<1114112):
 Calls Tryz.prog 176 #[vb,.int .i32 r] w fun e w'=>∃v',e = .returned v'∧Bytes B w' v' (xs++wrI r)∧Below B w w':=by
 by_cases a:r<128
 · rw[wrI1 a];exact zNt B vb xs r w ht hown hB hl h0 a
 by_cases b:r<2048
 · rw[wrI2 (by omega) b];exact zNs B vb xs r w ht hown hB hl (by omega) b
 by_cases c:r<65536
 · rw[wrI3 (by omega) c];exact zNr B vb xs r w ht hown hB hl (by omega) c
 · rw[wrI4 (by omega)];exact zNq B vb xs r w ht hown hB hl (by omega) h1
end
section
open Go.RowKit Pm
namespace Bt
abbrev Mt:=ByteArray×(Int×Int)
def btr(a b:Mt):Bool:=if a.2.2=b.2.2 then (if a.2.1=b.2.1 then zAa a.1 b.1 else decide (b.2.1<a.2.1))else decide (a.2.2<b.2.2)
theorem zDv:STO btr:=by
 refine⟨fun a=>?_,fun a b c h1 h2=>?_,fun a b h1 h2=>?_⟩
 · unfold btr;rw[if_pos rfl,if_pos rfl];exact lessB_sto.1 _
 · unfold btr at h1 h2 ⊢
   by_cases e1:a.2.2=b.2.2
   · rw[if_pos e1]at h1
     by_cases e2:b.2.2=c.2.2
     · rw[if_pos e2]at h2
       rw[if_pos (e1.trans e2)];by_cases f1:a.2.1=b.2.1
       · rw[if_pos f1]at h1
         by_cases f2:b.2.1=c.2.1
         · rw[if_pos f2]at h2
           rw[if_pos (f1.trans f2)];exact lessB_sto.2 _ _ _ h1 h2
         · rw[if_neg f2]at h2
           rw[if_neg (by rw[f1];exact f2),f1];exact h2
       · rw[if_neg f1]at h1
         by_cases f2:b.2.1=c.2.1
         · rw[if_neg (by rw[←f2];exact f1),←f2];exact h1
         · rw[if_neg f2]at h2
           simp only[decide_eq_true_eq]at h1 h2;rw[if_neg (by omega)];simp only[decide_eq_true_eq];omega
     · rw[if_neg e2]at h2
       rw[if_neg (by rw[e1];exact e2),e1];exact h2
   · rw[if_neg e1]at h1
     by_cases e2:b.2.2=c.2.2
     · rw[if_neg (by rw[←e2];exact e1),←e2];exact h1
     · rw[if_neg e2]at h2
       simp only[decide_eq_true_eq]at h1 h2;rw[if_neg (by omega)];simp only[decide_eq_true_eq];omega
 · unfold btr at h1 h2
   by_cases e1:a.2.2=b.2.2
   · rw[if_pos e1]at h1
     rw[if_pos e1.symm]at h2;by_cases f1:a.2.1=b.2.1
     · rw[if_pos f1]at h1
       rw[if_pos f1.symm]at h2;have:=lessB_sto.3 _ _ h1 h2;exact Prod.ext this (Prod.ext f1 e1)
     · rw[if_neg f1]at h1
       rw[if_neg (fun e=>f1 e.symm)]at h2;simp only[decide_eq_false_iff_not]at h1 h2;omega
   · rw[if_neg e1]at h1
     rw[if_neg (fun e=>e1 e.symm)]at h2;simp only[decide_eq_false_iff_not]at h1 h2;omega
theorem asy{a b:Mt}(h:btr a b=true):btr b a=false:=by
 cases e:btr b a
 · rfl
 · have:=zDv.2 _ _ _ h e;rw[zDv.1]at this;cases this
theorem zEa{a b c:Mt}(h1:btr a b=false)(h2:btr b c=false):btr a c=false:=by
 cases e:btr a c
 · rfl
 · cases f:btr b a
   · have:=zDv.3 _ _ h1 f;subst this;rw[h2]at e;cases e
   · have:=zDv.2 _ _ _ f e;rw[h2]at this;cases this
def el(h:List Mt)(i:Nat):Mt:=(h[i]?).getD (.empty,0,0)
theorem zW2{h:List Mt}{i:Nat}(hi:i<h.length):h[i]?=some (el h i):=by
 unfold el;rw[List.getElem?_eq_getElem hi];rfl
theorem el_set(h:List Mt)(i:Nat)(x:Mt)(k:Nat)(hi:i<h.length):el (h.set i x) k=if k=i then x else el h k:=by
 unfold el;rw[List.getElem?_set];by_cases e:k=i
 · subst e;rw[if_pos rfl,if_pos hi,if_pos rfl];rfl
 · rw[if_neg (fun e'=>e e'.symm),if_neg e]
def swp(h:List Mt)(i j:Nat):List Mt:=(h.set i (el h j)).set j (el h i)
theorem zGe(h:List Mt)(i j:Nat):(swp h i j).length=h.length:=by simp[swp]
theorem zNb(h:List Mt)(i j k:Nat)(hi:i<h.length)(hj:j<h.length):el (swp h i j) k=if k=j then el h i else if k=i then el h j else el h k:=by
 unfold swp;rw[el_set _ _ _ _ (by simpa using hj),el_set _ _ _ _ hi]
theorem zKl(h:List Mt)(i j:Nat)(hi:i<h.length)(hj:j<h.length):(swp h i j).Perm h:=by
 have e:swp h i j=(h.toArray.swap i j (by simpa using hi) (by simpa using hj)).toList:=by
  rw[Array.swap_def];simp only[Array.toList_set,swp,List.getElem_toArray];have e1:el h j=h[j]:=by unfold el;rw[List.getElem?_eq_getElem hj];rfl
  have e2:el h i=h[i]:=by unfold el;rw[List.getElem?_eq_getElem hi];rfl
  rw[e1,e2]
 rw[e];have:=Array.swap_perm (xs:=h.toArray) (i:=i) (j:=j) (by simpa using hi) (by simpa using hj);simpa[Array.perm_iff_toList_perm]using this
def pa(i:Nat):Nat:=(i-1)/2
def Hp(n:Nat)(h:List Mt):Prop:=∀i,0<i→i<n→btr (el h (pa i)) (el h i)=false
structure UpJ(n:Nat)(h:List Mt)(j:Nat):Prop where
 len:n=h.length
 lt:j<n
 inv:∀i,0<i→i<n→i≠j→btr (el h (pa i)) (el h i)=false
 gra:∀c,0<c→c<n→pa c=j→0<j→btr (el h (pa j)) (el h c)=false
theorem UpJ.step{n:Nat}{h:List Mt}{j:Nat}(J:UpJ n h j)(h0:0<j)(hb:btr (el h (pa j)) (el h j)=true):UpJ n (swp h (pa j) j) (pa j):=by
 have hl:=J.len;have hj:=J.lt;have hpj:pa j<j:=by unfold pa;omega
 have S:=fun k=>zNb h (pa j) j k (by omega) (by omega)
 refine⟨by rw[zGe];exact hl,by omega,fun k k0 kn kne=>?_,fun c c0 cn cp p0=>?_⟩
 · have hpk:pa k<k:=by unfold pa;omega
   rw[S k,S (pa k)];by_cases e1:k=j
   · subst e1
     rw[if_pos rfl,if_neg (by omega),if_pos rfl];exact asy hb
   · rw[if_neg e1]
     rw[if_neg kne];by_cases e2:pa k=j
     · rw[if_pos e2]
       exact J.gra k k0 kn e2 h0
     · rw[if_neg e2]
       by_cases e3:pa k=pa j
       · rw[if_pos e3]
         have h1:=J.inv k k0 kn e1;rw[e3]at h1;cases e:btr (el h j) (el h k)
         · rfl
         · have:=zDv.2 _ _ _ hb e;rw[h1]at this;cases this
       · rw[if_neg e3]
         exact J.inv k k0 kn e1
 · have hpp:pa (pa j)<pa j:=by unfold pa at *;omega
   rw[S c,S (pa (pa j)),if_neg (by omega),if_neg (by omega)];have h1:=J.inv (pa j) p0 (by omega) (by omega);by_cases e1:c=j
   · rw[if_pos e1];exact h1
   · rw[if_neg e1,if_neg (by intro e;rw[e]at cp;omega)]
     have h2:=J.inv c c0 cn e1;rw[cp]at h2;exact zEa h1 h2
theorem UpJ.stop{n:Nat}{h:List Mt}{j:Nat}(J:UpJ n h j)(hb:j=0∨btr (el h (pa j)) (el h j)=false):Hp n h:=by
 intro i i0 hi;by_cases e:i=j
 · subst e
   rcases hb with e|hb
   · omega
   · exact hb
 · exact J.inv i i0 hi e
theorem UpJ.start{h:List Mt}{x:Mt}(H:Hp h.length h):UpJ (h.length+1) (h++[x]) h.length:=by
 have E:∀k,k<h.length→el (h++[x]) k=el h k:=fun k hk=>by unfold el;rw[List.getElem?_append_left hk]
 refine⟨by simp,by omega,fun i i0 hi hne=>?_,fun c c0 cn cp p0=>?_⟩
 · rw[E i (by omega),E (pa i) (by unfold pa;omega)]
   exact H i i0 (by omega)
 · exfalso;unfold pa at cp;omega
structure DnJ(n:Nat)(h:List Mt)(i:Nat):Prop where
 len:n≤h.length
 inv:∀k,0<k→k<n→pa k≠i→btr (el h (pa k)) (el h k)=false
 gra:∀c,0<c→c<n→pa c=i→0<i→btr (el h (pa i)) (el h c)=false
structure Chi(n:Nat)(h:List Mt)(i j:Nat):Prop where
 lt:j<n
 of:pa j=i
 pos:0<j
 wor:∀c,0<c→c<n→pa c=i→btr (el h j) (el h c)=false
theorem zXo{n:Nat}{h:List Mt}{i:Nat}(h1:2*i+1<n)(h2:n≤2*i+2∨btr (el h (2*i+1)) (el h (2*i+2))=false):Chi n h i (2*i+1):=by
 refine⟨h1,by unfold pa;omega,by omega,fun c c0 cn cp=>?_⟩;have:c=2*i+1∨c=2*i+2:=by unfold pa at cp;omega
 rcases this with rfl|rfl
 · exact zDv.1 _
 · rcases h2 with h2|h2
   · omega
   · exact h2
theorem chi_two{n:Nat}{h:List Mt}{i:Nat}(h1:2*i+2<n)(h2:btr (el h (2*i+1)) (el h (2*i+2))=true):Chi n h i (2*i+2):=by
 refine⟨h1,by unfold pa;omega,by omega,fun c c0 cn cp=>?_⟩;have:c=2*i+1∨c=2*i+2:=by unfold pa at cp;omega
 rcases this with rfl|rfl
 · exact asy h2
 · exact zDv.1 _
theorem DnJ.step{n:Nat}{h:List Mt}{i j:Nat}(J:DnJ n h i)(C:Chi n h i j)(hb:btr (el h i) (el h j)=true):DnJ n (swp h i j) j:=by
 have hl:=J.len;have hj:=C.lt;have hij:i<j:=by have:=C.of;have:=C.pos;unfold pa at *;omega
 have S:=fun k=>zNb h i j k (by omega) (by omega)
 refine⟨by rw[zGe];exact hl,fun k k0 kn kne=>?_,fun c c0 cn cp p0=>?_⟩
 · have hpk:pa k<k:=by unfold pa;omega
   rw[S k,S (pa k),if_neg kne];by_cases e1:k=j
   · subst e1
     rw[if_pos C.of,if_pos rfl];exact asy hb
   · rw[if_neg e1]
     by_cases e2:k=i
     · subst e2
       rw[if_neg (by omega),if_pos rfl];exact J.gra j C.pos hj C.of k0
     · rw[if_neg e2]
       by_cases e3:pa k=i
       · rw[if_pos e3];exact C.wor k k0 kn e3
       · rw[if_neg e3];exact J.inv k k0 kn e3
 · have hjc:j<c:=by unfold pa at cp;omega
   rw[S c,S (pa j),C.of,if_neg (by omega),if_pos rfl,if_neg (by omega),if_neg (by omega)];have:=J.inv c c0 cn (by omega);rw[cp]at this;exact this
theorem DnJ.leaf{n:Nat}{h:List Mt}{i:Nat}(J:DnJ n h i)(hn:n≤2*i+1):Hp n h:=by
 intro k k0 kn;exact J.inv k k0 kn (by unfold pa;omega)
theorem DnJ.stop{n:Nat}{h:List Mt}{i j:Nat}(J:DnJ n h i)(C:Chi n h i j)(hb:btr (el h i) (el h j)=false):Hp n h:=by
 intro k k0 kn;by_cases e:pa k=i
 · rw[e];exact zEa hb (C.wor k k0 kn e)
 · exact J.inv k k0 kn e
theorem DnJ.start{n:Nat}{h:List Mt}(hl:h.length=n+1)(H:Hp (n+1) h):DnJ n (swp h 0 n) 0:=by
 have S:=fun k=>zNb h 0 n k (by omega) (by omega)
 refine⟨by rw[zGe];omega,fun k k0 kn kne=>?_,fun c c0 cn cp p0=>absurd p0 (Nat.lt_irrefl _)⟩;have hpk:pa k<k:=by unfold pa;omega
 rw[S k,S (pa k),if_neg (by omega),if_neg kne,if_neg (by omega),if_neg (by omega)];exact H k k0 (by omega)
theorem Hp.root{n:Nat}{h:List Mt}(H:Hp n h):∀k,k<n→btr (el h 0) (el h k)=false:=by
 intro k
 induction k using Nat.strongRecOn with
 |ind k ih=>
  intro hk;by_cases e:k=0
  · subst e;exact zDv.1 _
  · have hp:pa k<k:=by unfold pa;omega
    exact zEa (ih (pa k) hp (by omega)) (H k (by omega) hk)
theorem Hp.take{n:Nat}{h:List Mt}(H:Hp n h):Hp n (h.take n):=by
 intro i i0 hi;have E:∀k,k<n→el (h.take n) k=el h k:=fun k hk=>by unfold el;rw[List.getElem?_take,if_pos hk]
 rw[E i hi,E (pa i) (by unfold pa;omega)];exact H i i0 hi
theorem zR6{n:Nat}{h:List Mt}(hl:h.length=n+1):h=h.take n++[el h n]:=by
 apply List.ext_getElem?;intro k;by_cases hk:k<n
 · rw[List.getElem?_append_left (by rw[List.length_take];omega),List.getElem?_take,if_pos hk]
 · by_cases e:k=n
   · subst e
     rw[List.getElem?_append_right (by rw[List.length_take];omega),List.length_take,zW2 (by omega)];simp[Nat.min_eq_left (by omega:k≤h.length)]
   · rw[List.getElem?_eq_none (by omega),List.getElem?_eq_none (by rw[List.length_append,List.length_take];simp;omega)]
theorem popped{n:Nat}{h h1:List Mt}(hl:h.length=n+1)(hp:h1.Perm (swp h 0 n))(hk:el h1 n=el (swp h 0 n) n):(el h 0::h1.take n).Perm h∧el h1 n=el h 0:=by
 have hl1:h1.length=n+1:=by rw[hp.length_eq,zGe,hl]
 have e0:el h1 n=el h 0:=by rw[hk,zNb h 0 n n (by omega) (by omega),if_pos rfl]
 refine⟨?_,e0⟩;have e1:=zR6 hl1;rw[e0]at e1;have p1:(h1.take n++[el h 0]).Perm h:=by rw[←e1];exact hp.trans (zKl h 0 n (by omega) (by omega))
 exact(List.perm_append_singleton _ _).symm.trans p1
end Bt
end
