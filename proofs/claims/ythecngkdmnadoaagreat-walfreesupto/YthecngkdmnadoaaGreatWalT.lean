import Derived.Test.YthecngkdmnadoaaGreatWalB
namespace Go.Proofs.YthecngkdmnadoaaGreat
open Go.RowKit
set_option maxRecDepth 100000
def saysN(v:List Nat):Nat:=min (v.getD 0 0) 63
def saysT(v:List Nat):List Nat:=(v.drop 1).take (saysN v)
def textF(S:List Sec)(a:Int):Nat→Nat→List Nat
 |0,_=>[]
 |f+1,i=>match curOf S a (i:Int)with
  |none=>[]
  |some v=>if saysN v<63 then saysT v else saysT v++textF S a f (i+1)
def textS(S:List Sec)(a:Int):List Nat:=textF S a 65536 0
theorem textF_none{S:List Sec}{a:Int}{f i:Nat}(h:curOf S a (i:Int)=none):textF S a (f+1) i=[]:=by rw[textF,h]
theorem textF_last{S:List Sec}{a:Int}{f i:Nat}{v:List Nat}(h:curOf S a (i:Int)=some v)(hn:saysN v<63):textF S a (f+1) i=saysT v:=by rw[textF,h];exact if_pos hn
theorem textF_more{S:List Sec}{a:Int}{f i:Nat}{v:List Nat}(h:curOf S a (i:Int)=some v)(hn:¬saysN v<63):textF S a (f+1) i=saysT v++textF S a f (i+1):=by rw[textF,h];exact if_neg hn
theorem saysT_len{v:List Nat}(h:v.length=64):(saysT v).length=saysN v:=by
 unfold saysT saysN;rw[List.length_take,List.length_drop,h];omega
theorem ver_part{W:World}{b n:Nat}{v:List Nat}{t:TypeId}(h:W.heap[b]?=some (.cells (verC v) t (0,0)))(hv:v.length=64)(hn:n≤63):Row W.heap.size W (.slice (some ⟨b,1,none⟩) n 63) ((v.drop 1).take n):=by
 have hl:((v.drop 1).take n).length=n:=by rw[List.length_take,List.length_drop,hv];omega
 refine⟨some ⟨b,1,none⟩,63,by rw[hl],by omega,(fun h=>by cases h),fun _=>⟨b,1,rfl,(Array.getElem?_eq_some_iff.1 h).1,fun i hi=>?_⟩⟩;rw[hl]at hi;have h1:1+i<v.length:=by omega
 have h2:v[i+1]?=some v[1+i]:=by rw[show i+1=1+i by omega];exact List.getElem?_eq_getElem h1
 simp[World.cell?,h,verC,h1,List.getD_eq_getElem?_getD,hi,h2]
structure TxOk(S:List Sec)(a:Int)(T:List Nat)(i:Nat)(acc:List Nat):Prop where
 eq:acc++textF S a (65536-i) i=T
 le:acc.length≤63*i
theorem TxOk.none{S:List Sec}{a:Int}{T acc:List Nat}{i:Nat}(h:TxOk S a T i acc)(hi:i<65536)(hc:curOf S a (i:Int) = .none):T=acc:=by
 have e:=h.eq;rw[show 65536-i=(65535-i)+1 by omega,textF_none hc,List.append_nil]at e;exact e.symm
theorem TxOk.last{S:List Sec}{a:Int}{T acc v:List Nat}{i:Nat}(h:TxOk S a T i acc)(hi:i<65536)(hc:curOf S a (i:Int)=some v)(hn:saysN v<63):T=acc++saysT v:=by
 have e:=h.eq;rw[show 65536-i=(65535-i)+1 by omega,textF_last hc hn]at e;exact e.symm
theorem TxOk.more{S:List Sec}{a:Int}{T acc v:List Nat}{i:Nat}(h:TxOk S a T i acc)(hi:i<65536)(hc:curOf S a (i:Int)=some v)(hl:v.length=64)(hn:¬saysN v<63):TxOk S a T (i+1) (acc++saysT v):=by
 have e:=h.eq;have:=h.le;rw[show 65536-i=(65536-(i+1))+1 by omega,textF_more hc hn,←List.append_assoc]at e;have hs:saysN v≤63:=by unfold saysN;omega
 exact⟨e,by rw[List.length_append,saysT_len hl];omega⟩
theorem TxOk.end{S:List Sec}{a:Int}{T acc:List Nat}{i:Nat}(h:TxOk S a T i acc)(hi:i=65536):T=acc:=by
 have e:=h.eq;rw[hi,Nat.sub_self,textF,List.append_nil]at e;exact e.symm
set_option maxHeartbeats 1000000 in
theorem textOf_any(N p:Nat)(d:DS)(fp:List Nat)(a:Int)(w:World)(h:DiskAt N w p d fp)(hN:N<1099511627776)(hB:∀i v,curOf d.secs a i=some v→∀x∈v,x<256):
 Calls Tryz.prog 85 #[.pointer (some ⟨p,0,none⟩),.int .u64 a] w fun e w'=>∃v,e = .returned v∧Bytes w.heap.size w' v (textS d.secs a)∧Below w.heap.size w w':=by
 have HD:Hid (DiskAt N w p d fp):=h;have HB:Hid (∀i v,curOf d.secs a i=some v→∀x∈v,x<256):=hB;clear h hB;obtain⟨T,hT⟩:∃T,textS d.secs a=T:=⟨_,rfl⟩;have H0:Hid (TxOk d.secs a T 0 []):=⟨by rw[←hT];rfl,by simp⟩;rw[hT];clear hT;go_enter Tryz.func85,Tryz.ntmps85;go_wp2_with fail
 go_loopw [5,10] (fun v5 v10 wr=>∃(i:Nat) (acc:List Nat),v10 = .int .i64 i∧i≤65536∧Bytes w.heap.size wr v5 acc∧TxOk d.secs a T i acc∧Below w.heap.size w wr) (fun _ v10 _=>65536-(intOf v10).toNat)
 case atStart=>exact⟨0,[],rfl,by omega,Bytes.nil _ _,H0.out,Below.refl _ _⟩
 case round=>
  clear H0;obtain⟨i,acc,rfl,hi,hby,htx,hbw⟩:=hrel;obtain⟨aoT,capT,hsh,_⟩:=hby.row.shape;subst hsh;have HBY:Hid (Bytes w.heap.size wr (.slice aoT acc.length capT) acc):=hby
  have HT:Hid (TxOk d.secs a T i acc):=htx;have HW:Hid (Below w.heap.size w wr):=hbw;have hsz:=hbw.size;have hal:=htx.le;obtain⟨al,hall⟩:∃al,acc.length=al:=⟨_,rfl⟩;have HAL:Hid (acc.length=al):=hall;rw[hall]at HBY hal;rw[hall];clear hby htx hbw hall;by_cases hlt:i<65536
  · have hlt':(i:Int)<65536:=by omega
    go_wp2_with fail;refine(Read_any N p d fp a (i:Int) wr (HD.out.below HW.out) (by omega)).mono ?_;rintro e w2 ⟨hb2,⟨hcur,rfl⟩|⟨v,b,hcur,hvl,rfl,hbl,hcell⟩⟩
    · have HE:Hid (T=acc):=HT.out.none hlt hcur
      have HR:Hid (Bytes w.heap.size w2 (.slice aoT al capT) acc∧Below w.heap.size w w2):=⟨HBY.out.below hb2,HW.out.trans (hb2.mono hsz)⟩;clear hcur hb2;go_wp2_with fail;go_ret;exact⟨_,rfl,by rw[HE.out];exact HR.out.1,HR.out.2⟩
    · have hx0:v.getD 0 0<256:=by
       rw[List.getD_eq_getElem?_getD,List.getElem?_eq_getElem (by omega)];exact HB.out _ v hcur _ (List.getElem_mem _)
      have c0:w2.cell? ⟨b,0,none⟩=some (.int .u8 ((v.getD 0 0:Nat):Int)):=by
       (have h1:0<v.length:=by omega);simp[World.cell?,hcell,verC,h1,List.getD_eq_getElem?_getD]
      obtain⟨x0,hx⟩:∃x0,v.getD 0 0=x0:=⟨_,rfl⟩;obtain⟨n,hn⟩:∃n,saysN v=n:=⟨_,rfl⟩;(have hmin:min (x0:Int) 63=(n:Int):=by rw[←hn,←hx];unfold saysN;omega);(have hn63:n≤63:=by rw[←hn];unfold saysN;omega);by_cases hx63:x0<63
      · have hx63':(x0:Int)<63:=by omega
        (have hnx:n=x0:=by omega);subst hnx;clear hmin;have HRow:Hid (Row w2.heap.size w2 (.slice (some ⟨b,1,none⟩) n 63) (saysT v)):=by
         show Row _ _ _ _;unfold saysT;rw[hn];exact ver_part hcell hvl hn63
        (have HSL:Hid ((saysT v).length=n):=by rw[←hn];exact saysT_len hvl);have HR2:Hid (Bytes w.heap.size w2 (.slice aoT al capT) acc):=HBY.out.below hb2;have HW2:Hid (Below w.heap.size w w2):=HW.out.trans (hb2.mono hsz);have HCU:Hid (curOf d.secs a (i:Int)=some v∧v.length=64∧saysN v=n):=⟨hcur,hvl,hn⟩;rw[hx]at c0 hx0;have hw2s:w.heap.size≤w2.heap.size:=HW2.out.size;clear hcur hb2 hcell hx hn hvl;(have h1n:(1:Int)+(n:Int)≤64:=by omega);(have hto:((1:Int)+(n:Int)).toNat=1+n:=by omega);(have hto2:1+n-1=n:=by omega);(have hto3:((1:Int)+(n:Int)).toNat-1=n:=by omega);(have HSM:Hid (acc.length+(saysT v).length≤140737488355328):=by show _≤_;rw[HAL.out,HSL.out];omega);go_wp2_with (at_builtin;refine append_row (by rfl) _ _ rfl w.heap.size w2.heap.size _ _ acc (saysT v) rfl HR2.out rfl HRow.out HSM.out hw2s ?_);intro v3 w3 hr3 hb3 _;have HR3:Hid (Bytes w.heap.size w3 v3 (acc++saysT v)):=hr3;have HW3:Hid (Below w.heap.size w w3):=HW2.out.trans hb3;clear hr3 hb3;(have hnl':(n:Int)<63:=by omega);have HE:Hid (T=acc++saysT v):=HT.out.last hlt HCU.out.1 (by rw[HCU.out.2.2];omega);go_wp2_with fail;go_ret;exact⟨_,rfl,by rw[HE.out];exact HR3.out,HW3.out⟩
      · have hx63':¬(x0:Int)<63:=by omega
        (have hnx:n=63:=by omega);subst hnx;(have hif:(if (63:Int)<(x0:Int)then (63:Int)else (x0:Int))=63:=by split<;>omega);clear hmin;have HRow:Hid (Row w2.heap.size w2 (.slice (some ⟨b,1,none⟩) 63 63) (saysT v)):=by
         show Row _ _ _ _;unfold saysT;rw[hn];exact ver_part hcell hvl hn63
        (have HSL:Hid ((saysT v).length=63):=by rw[←hn];exact saysT_len hvl);have HR2:Hid (Bytes w.heap.size w2 (.slice aoT al capT) acc):=HBY.out.below hb2;have HW2:Hid (Below w.heap.size w w2):=HW.out.trans (hb2.mono hsz);have HCU:Hid (curOf d.secs a (i:Int)=some v∧v.length=64∧saysN v=63):=⟨hcur,hvl,hn⟩;rw[hx]at c0 hx0;have hw2s:w.heap.size≤w2.heap.size:=HW2.out.size;clear hcur hb2 hcell hx hn hvl;(have HSM:Hid (acc.length+(saysT v).length≤140737488355328):=by show _≤_;rw[HAL.out,HSL.out];omega);go_wp2_with (at_builtin;refine append_row (by rfl) _ _ rfl w.heap.size w2.heap.size _ _ acc (saysT v) rfl HR2.out rfl HRow.out HSM.out hw2s ?_);intro v3 w3 hr3 hb3 _;have HR3:Hid (Bytes w.heap.size w3 v3 (acc++saysT v)):=hr3;have HW3:Hid (Below w.heap.size w w3):=HW2.out.trans hb3;clear hr3 hb3;have HE:Hid (TxOk d.secs a T (i+1) (acc++saysT v)):=HT.out.more hlt HCU.out.1 HCU.out.2.1 (by rw[HCU.out.2.2];omega);go_wp2_with fail
        go_roundw
        (case rel=>exact⟨i+1,acc++saysT v,by go_num,by omega,HR3.out,HE.out,HW3.out⟩);case measure=>simp[intOf];omega
  · have hi2:i=65536:=by omega
    have HE:Hid (T=acc):=HT.out.end hi2;(have hlt':¬(i:Int)<65536:=by omega);clear hi2;go_wp2_with fail;go_ret;exact⟨_,rfl,by rw[HE.out];exact HBY.out,HW.out⟩
end Go.Proofs.YthecngkdmnadoaaGreat
