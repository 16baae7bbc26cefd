/- Texts that were written apart, joined. -/
import Derived.Test.YthecngkdmnadoaaGreatG35
import Derived.Test.YthecngkdmnadoaaGreatG36
import Derived.Test.YthecngkdmnadoaaGreatG24
namespace Go.Proofs.YthecngkdmnadoaaGreat
open Go.RowKit
set_option maxRecDepth 100000
def secv(left:List Nat)(k:Nat):List Nat:=pad (((left.drop (63*k)).take 63).length::(left.drop (63*k)).take 63)
theorem saysN_pad{c:List Nat}(h:c.length≤63):saysN (pad (c.length::c))=c.length:=by
 unfold saysN pad;simp only[List.cons_append,List.getD_cons_zero];omega
theorem saysT_pad{c:List Nat}(h:c.length≤63):saysT (pad (c.length::c))=c:=by
 unfold saysT;rw[saysN_pad h];unfold pad;simp only[List.cons_append,List.drop_succ_cons,List.drop_zero];rw[List.take_left]
theorem secv_zero(left:List Nat):secv left 0=pad ((left.take 63).length::left.take 63):=by unfold secv;simp
theorem secv_drop(left:List Nat)(k:Nat):secv (left.drop 63) k=secv left (k+1):=by
 unfold secv;rw[List.drop_drop,show 63+63*k=63*(k+1)by omega]
theorem step_alive{d:DS}(hd:d.dead=false):(stepE d=0∧(stepD d).dead=false)∨(stepE d=30∧(stepD d).dead=true):=by
 have hn:¬d.dead=true:=by rw[hd];simp
 cases ha:d.armed with
 |false=>
  left;exact⟨by rw[stepE,if_neg hn,ha];rfl,by rw[stepD,if_neg hn,if_pos (by rw[ha];rfl)];exact hd⟩
 |true=>
  by_cases h0:d.ahead=0
  · right
    exact⟨by rw[stepE,if_neg hn,ha,h0];rfl,by rw[stepD,if_neg hn,if_neg (by rw[ha];simp),if_pos h0]⟩
  · left
    (have hb:(d.ahead==0)=false:=by simpa using h0);exact⟨by rw[stepE,if_neg hn,ha,hb];rfl,by rw[stepD,if_neg hn,if_neg (by rw[ha];simp),if_neg h0];exact hd⟩
theorem stepD_room(d:DS):(stepD d).room=d.room∧(stepD d).secs=d.secs:=by
 unfold stepD
 split
 · exact⟨rfl,rfl⟩
 · split
   · exact⟨rfl,rfl⟩
   · split
     · exact⟨rfl,rfl⟩
     · exact⟨rfl,rfl⟩
theorem wr_well{d:DS}{a n:Int}{xs:List Nat}(hd:d.dead=false)(h0:0≤n)(h1:n<65536)(hl:xs.length≤64)(hr:(d.secs.length:Int)<d.room):
 wrE d a n xs=stepE d∧wrD d a n xs={ stepD d with secs:=wr a n (pad xs) d.secs }:=by
 have hn:¬d.dead=true:=by rw[hd];simp
 have hf:¬formBad n xs:=by unfold formBad;omega
 have hb:¬fullBad d a n:=by unfold fullBad;omega
 unfold wrE wrD;rw[if_neg hn,if_neg hn,if_neg hf,if_neg hf,if_neg hb,if_neg hb];exact⟨rfl,rfl⟩
structure LayM(area:Nat)(d:DS)(s:Nat)(left:List Nat)(r:LayR):Prop where
 e:(r.e=0∧r.d.dead=false)∨(r.e=30∧r.d.dead=true)
 sorted:r.d.secs.Pairwise Sec.before
 room:r.d.room=d.room
 len:r.d.secs.length≤d.secs.length+(left.length+62)/63
 far:∀a' n',(a'≠(area:Int)∨n'<(s:Int))→findS a' n' r.d.secs=findS a' n' d.secs
 ver:∀(n:Int) o,Ver r.d.secs (area:Int) n o→Ver d.secs (area:Int) n o∨∃k:Nat,n=((s+k:Nat):Int)∧63*k<left.length∧o=some (secv left k)
 cur:r.e=0→∀i:Nat,curOf r.d.secs (area:Int) (i:Int)=if s≤i∧63*(i-s)<left.length then some (secv left (i-s))else curOf d.secs (area:Int) (i:Int)
 seg:r.e=0→r.sector=s+left.length/63∧r.tail=some (left.drop (63*(left.length/63)))
 bytes:(∀a n v,Ver d.secs a n (some v)→∀y∈v,y<256)→(∀y∈left,y<256)→∀a n v,Ver r.d.secs a n (some v)→∀y∈v,y<256
theorem pad_byte{xs:List Nat}(h:∀y∈xs,y<256):∀y∈pad xs,y<256:=by
 intro y hy;unfold pad at hy;rcases List.mem_append.1 hy with h1|h1
 · exact h y h1
 · rw[(List.mem_replicate.1 h1).2];decide
theorem secv_byte{left:List Nat}(h:∀y∈left,y<256)(k:Nat):∀y∈secv left k,y<256:=by
 unfold secv;refine pad_byte fun y hy=>?_
 rcases List.mem_cons.1 hy with rfl|h1
 · have:((left.drop (63*k)).take 63).length≤63:=List.length_take_le ..
   omega
 · exact h y (List.mem_of_mem_drop (List.mem_of_mem_take h1))
theorem lay_main(area:Nat):∀(f:Nat) (d:DS) (s:Nat) (left:List Nat),left.length<f→d.secs.Pairwise Sec.before→d.dead=false→(d.secs.length:Int)+((left.length+62)/63:Nat)<d.room→s+left.length/63<65536→LayM area d s left (layF area f d s left)
 |0,_,_,_,h,_,_,_,_=>absurd h (Nat.not_lt_zero _)
 |f+1,d,s,left,hf,hs,hd,hr,hsz=>by
  by_cases h63:63≤left.length
  · have hl1:(63::left.take 63).length≤64:=by simp only[List.length_cons,List.length_take];omega
    obtain⟨w1,w2⟩:=wr_well (d:=d) (a:=(area:Int)) (n:=(s:Int)) (xs:=63::left.take 63) hd (by omega) (by omega) hl1 (by omega);(have hsv:pad (63::left.take 63)=secv left 0:=by rw[secv_zero,show(left.take 63).length=63 by rw[List.length_take];omega]);rw[hsv]at w2;(have hsec:(wrD d area s (63::left.take 63)).secs=wr (area:Int) (s:Int) (secv left 0) d.secs:=by rw[w2]);have hlen:=wr_len (a:=(area:Int)) (n:=(s:Int)) (v:=secv left 0) hs;(have hlen2:(wr (area:Int) (s:Int) (secv left 0) d.secs).length≤d.secs.length+1:=by rw[hlen];split<;>omega);(have hrm:(wrD d area s (63::left.take 63)).room=d.room:=by rw[w2];exact(stepD_room d).1);have hver1:∀(n:Int) o,Ver (wr (area:Int) (s:Int) (secv left 0) d.secs) (area:Int) n o→Ver d.secs (area:Int) n o∨∃k:Nat,n=((s+k:Nat):Int)∧63*k<left.length∧o=some (secv left k):=by
     intro n o h;rcases ver_wr hs h with h1|⟨_,h2,h3⟩
     · exact .inl h1
     · exact .inr ⟨0,by rw[h2,Nat.add_zero],by omega,h3⟩
    have hfar1:∀a' n',(a'≠(area:Int)∨n'<(s:Int))→findS a' n' (wr (area:Int) (s:Int) (secv left 0) d.secs)=findS a' n' d.secs:=fun a' n' h=>by
     rw[find_wr hs,if_neg (by omega)]
    have hby1:(∀a n v,Ver d.secs a n (some v)→∀y∈v,y<256)→(∀y∈left,y<256)→∀a n v,Ver (wr (area:Int) (s:Int) (secv left 0) d.secs) a n (some v)→∀y∈v,y<256:=by
     intro hb hl a n v hv y hy;rcases ver_wr hs hv with h1|⟨_,_,h3⟩
     · exact hb a n v h1 y hy
     · simp only[Option.some.injEq]at h3
       subst h3;exact secv_byte hl 0 y hy
    rcases step_alive hd with⟨t1,t2⟩|⟨t1,t2⟩
    · have he:wrE d area s (63::left.take 63)=0:=w1.trans t1
      rw[layF_go h63 he];have hdl:(left.drop 63).length=left.length-63:=List.length_drop ..;have ih:=lay_main area f (wrD d area s (63::left.take 63)) (s+1) (left.drop 63) (by omega) (by rw[hsec];exact wr_sorted hs) (by rw[w2];exact t2) (by rw[hsec,hrm,hdl];omega) (by rw[hdl];omega);refine⟨ih.e,ih.sorted,ih.room.trans hrm,?_,fun a' n' h=>?_,fun n o h=>?_,fun h0 i=>?_,fun h0=>?_,fun hb hl=>?_⟩
      · have:=ih.len
        rw[hsec,hdl]at this;omega
      · rw[ih.far a' n' (by omega),hsec]
        exact hfar1 a' n' h
      · rcases ih.ver n o h with h1|⟨k,h1,h2,h3⟩
        · rw[hsec]at h1
          exact hver1 n o h1
        · exact .inr ⟨k+1,by rw[h1];omega,by omega,by rw[h3,secv_drop]⟩
      · rw[ih.cur h0 i,hsec,vcur_wr hs,hdl]
        by_cases c1:s+1≤i∧63*(i-(s+1))<left.length-63
        · rw[if_pos c1,if_pos (by omega),secv_drop,show i-(s+1)+1=i-s by omega]
        · rw[if_neg c1]
          by_cases c2:i=s
          · subst c2
            rw[if_pos ⟨rfl,rfl⟩,if_pos (by omega),Nat.sub_self]
          · rw[if_neg (by omega),if_neg (by omega)]
      · obtain⟨h1,h2⟩:=ih.seg h0
        rw[hdl]at h1 h2;refine⟨by omega,?_⟩;rw[h2,List.drop_drop];congr 2;omega
      · exact ih.bytes (by rw[hsec];exact hby1 hb hl) (fun y hy=>hl y (List.mem_of_mem_drop hy))
    · have he:¬wrE d area s (63::left.take 63)=0:=by rw[w1,t1];decide
      rw[layF_bad h63 he];refine⟨.inr ⟨w1.trans t1,by rw[w2];exact t2⟩,by rw[hsec];exact wr_sorted hs,hrm,?_,fun a' n' h=>?_,fun n o h=>?_,fun h0=>absurd h0 he,fun h0=>absurd h0 he,fun hb hl=>?_⟩
      · show(wrD d area s (63::left.take 63)).secs.length≤_
        rw[hsec];omega
      · show findS a' n' (wrD d area s (63::left.take 63)).secs=_
        rw[hsec];exact hfar1 a' n' h
      · have h':Ver (wrD d area s (63::left.take 63)).secs (area:Int) n o:=h
        rw[hsec]at h';exact hver1 n o h'
      · show ∀a n v,Ver (wrD d area s (63::left.take 63)).secs a n (some v)→_
        rw[hsec];exact hby1 hb hl
  · by_cases h0:left=[]
    · subst h0
      rw[layF_nil];refine⟨.inl ⟨rfl,hd⟩,hs,rfl,by simp,fun _ _ _=>rfl,fun n o h => .inl h,fun _ i=>?_,fun _=>⟨by simp,by simp⟩,fun hb _=>hb⟩;rw[if_neg (by simp)]
    · have hpos:0<left.length:=List.length_pos_iff.2 h0
      (have hl1:(left.length::left).length≤64:=by simp only[List.length_cons];omega);obtain⟨w1,w2⟩:=wr_well (d:=d) (a:=(area:Int)) (n:=(s:Int)) (xs:=left.length::left) hd (by omega) (by omega) hl1 (by omega);(have hsv:pad (left.length::left)=secv left 0:=by rw[secv_zero,List.take_of_length_le (by omega)]);rw[hsv]at w2;(have hsec:(wrD d area s (left.length::left)).secs=wr (area:Int) (s:Int) (secv left 0) d.secs:=by rw[w2]);have hlen:=wr_len (a:=(area:Int)) (n:=(s:Int)) (v:=secv left 0) hs;(have hlen2:(wr (area:Int) (s:Int) (secv left 0) d.secs).length≤d.secs.length+1:=by rw[hlen];split<;>omega);rw[layF_end h63 h0];refine⟨?_,by show(wrD d area s (left.length::left)).secs.Pairwise Sec.before;rw[hsec];exact wr_sorted hs,by show(wrD d area s (left.length::left)).room=_;rw[w2];exact(stepD_room d).1,?_,fun a' n' h=>?_,fun n o h=>?_,fun _ i=>?_,fun _=>⟨by show s=_;omega,?_⟩,fun hb hl=>?_⟩
      · show(wrE d area s (left.length::left)=0∧(wrD d area s (left.length::left)).dead=false)∨_
        rw[w1,w2];exact step_alive hd
      · show(wrD d area s (left.length::left)).secs.length≤_
        rw[hsec];omega
      · show findS a' n' (wrD d area s (left.length::left)).secs=_
        rw[hsec,find_wr hs,if_neg (by omega)]
      · have h':Ver (wrD d area s (left.length::left)).secs (area:Int) n o:=h
        rw[hsec]at h';rcases ver_wr hs h' with h1|⟨_,h2,h3⟩
        · exact .inl h1
        · exact .inr ⟨0,by rw[h2,Nat.add_zero],by omega,h3⟩
      · show curOf (wrD d area s (left.length::left)).secs area i=_
        rw[hsec,vcur_wr hs];by_cases c2:i=s
        · subst c2
          rw[if_pos ⟨rfl,rfl⟩,if_pos (by omega),Nat.sub_self]
        · rw[if_neg (by omega),if_neg (by omega)]
      · show some left=_
        rw[show left.length/63=0 by omega,Nat.mul_zero,List.drop_zero]
      · show ∀a n v,Ver (wrD d area s (left.length::left)).secs a n (some v)→_
        rw[hsec];intro a n v hv y hy;rcases ver_wr hs hv with h1|⟨_,_,h3⟩
        · exact hb a n v h1 y hy
        · simp only[Option.some.injEq]at h3
          subst h3;exact secv_byte hl 0 y hy
theorem layR_main(area:Nat)(d:DS)(s:Nat)(left:List Nat)(hs:d.secs.Pairwise Sec.before)(hd:d.dead=false)(hr:(d.secs.length:Int)+((left.length+62)/63:Nat)<d.room)(hsz:s+left.length/63<65536):LayM area d s left (layR d area s left):=
 lay_main area (left.length+1) d s left (Nat.lt_succ_self _) hs hd hr hsz
end Go.Proofs.YthecngkdmnadoaaGreat

namespace Go.Proofs.YthecngkdmnadoaaGreat
open Go.RowKit
set_option maxRecDepth 100000
theorem areas_mem{S:List Sec}(hs:S.Pairwise Sec.before):(∀a,a∈areasS S↔∃s∈S,s.area=a)∧(areasS S).Pairwise (·<·):=by
 have hmono:∀i j,i<j→j<(S.map (·.area)).toArray.size→(S.map (·.area)).toArray[i]!≤(S.map (·.area)).toArray[j]!:=by
  intro i j hij hj;have hj':j<S.length:=by simpa using hj
  have h1:=List.pairwise_iff_getElem.1 hs i j (by omega) hj' hij;have e1:(S.map (·.area)).toArray[i]! = S[i].area:=by simp[Nat.lt_trans hij hj']
  have e2:(S.map (·.area)).toArray[j]! = S[j].area:=by simp[hj']
  rw[e1,e2];unfold Sec.before at h1;omega
 obtain⟨h1,h2⟩:=compact_up (S.map (·.area)).toArray hmono (S.map (·.area)).length (by simp);refine⟨fun a=>?_,h2⟩;have h3:=h1 a;unfold areasS Lib.compact;rw[h3];constructor
 · rintro⟨j,hj,rfl⟩
   (have hj':j<S.length:=by simpa using hj);exact⟨S[j],List.getElem_mem hj',by simp[hj']⟩
 · rintro⟨s,hm,rfl⟩
   obtain⟨j,hj,rfl⟩:=List.getElem_of_mem hm;exact⟨j,by simpa using hj,by simp[hj]⟩
def arN(n:Nat):Int:=((4*n+1:Nat):Int)
theorem nums_mem{d:DS}(hs:d.secs.Pairwise Sec.before)(h0:∀s∈d.secs,0≤s.area):(∀n,n∈numsN d↔∃s∈d.secs,s.area=arN n)∧(numsN d).Pairwise (·<·):=by
 obtain⟨h1,h2⟩:=areas_mem hs;have hnn:∀a∈(areasS d.secs).filter (fun a=>a.tmod 4==1),a=4*a.tdiv 4+1∧0≤a.tdiv 4:=by
  intro a ha;obtain⟨ha1,ha2⟩:=List.mem_filter.1 ha;obtain⟨s,hs1,rfl⟩:=(h1 a).1 ha1;have h3:=h0 s hs1;have h4:s.area.tmod 4=1:=by simpa using ha2
  rw[Int.tmod_eq_emod_of_nonneg h3]at h4;rw[Int.tdiv_eq_ediv_of_nonneg h3];omega
 constructor
 · intro n
   unfold numsN numsOf;rw[List.map_map,List.mem_map];constructor
   · rintro⟨a,ha,rfl⟩
     obtain⟨e,hn⟩:=hnn a ha;obtain⟨s,hs1,hs2⟩:=(h1 a).1 (List.mem_filter.1 ha).1;refine⟨s,hs1,?_⟩;rw[hs2];unfold arN;simp only[Function.comp_apply];omega
   · rintro⟨s,hs1,hs2⟩
     (have h3:0≤arN n:=by unfold arN;omega);refine⟨arN n,List.mem_filter.2 ⟨(h1 _).2 ⟨s,hs1,hs2⟩,?_⟩,?_⟩
     · rw[Int.tmod_eq_emod_of_nonneg h3]
       unfold arN;simp
     · simp only[Function.comp_apply]
       rw[Int.tdiv_eq_ediv_of_nonneg h3];unfold arN;omega
 · unfold numsN numsOf
   rw[List.map_map,List.pairwise_map];have h3:=h2.filter (fun a=>a.tmod 4==1);refine List.Pairwise.imp_of_mem (fun {a b} ha hb hab=>?_) h3;obtain⟨e1,e2⟩:=hnn a ha;obtain⟨e3,e4⟩:=hnn b hb;simp only[Function.comp_apply];omega
theorem filterMap_sub{β:Type}(f:Nat→Option β):∀(A B:List Nat),A.Pairwise (·<·)→B.Pairwise (·<·)→(∀x∈A,x∈B)→(∀x∈B,x∉A→f x=none)→A.filterMap f=B.filterMap f
 |A,[],_,_,hs,_=>by
  cases A with
  |nil=>rfl
  |cons x r=>exact absurd (hs x (List.mem_cons_self ..)) (by simp)
 |A,b::B,hA,hB,hs,hn=>by
  obtain⟨hb1,hb2⟩:=List.pairwise_cons.1 hB;cases A with
  |nil=>
   rw[List.filterMap_cons_none (hn b (List.mem_cons_self ..) (by simp))];exact filterMap_sub f [] B List.Pairwise.nil hb2 (fun x hx=>by cases hx) (fun x hx _=>hn x (List.mem_cons_of_mem _ hx) (by simp))
  |cons a A=>
   obtain⟨ha1,ha2⟩:=List.pairwise_cons.1 hA;by_cases e:a=b
   · subst e
     have ih:=filterMap_sub f A B ha2 hb2 (fun x hx=>by
      rcases List.mem_cons.1 (hs x (List.mem_cons_of_mem _ hx))with rfl|h
      · exact absurd (ha1 x hx) (Nat.lt_irrefl _)
      · exact h) (fun x hx hxa=>hn x (List.mem_cons_of_mem _ hx) (fun hm=>by
      rcases List.mem_cons.1 hm with rfl|h
      · exact absurd (hb1 x hx) (Nat.lt_irrefl _)
      · exact hxa h))
     rw[List.filterMap_cons,List.filterMap_cons,ih]
   · have hba:b<a:=by
      rcases List.mem_cons.1 (hs a (List.mem_cons_self ..))with h|h
      · exact absurd h e
      · exact hb1 a h
     have hbn:b∉a::A:=fun hm=>by
      rcases List.mem_cons.1 hm with h|h
      · exact e h.symm
      · have:=ha1 b h;omega
     rw[List.filterMap_cons_none (hn b (List.mem_cons_self ..) hbn)];refine filterMap_sub f (a::A) B hA hb2 (fun x hx=>?_) (fun x hx hxa=>hn x (List.mem_cons_of_mem _ hx) hxa);rcases List.mem_cons.1 (hs x hx)with rfl|h
     · exact absurd hx hbn
     · exact h
structure SOk(S:List Sec):Prop where
 sorted:S.Pairwise Sec.before
 area:∀s∈S,0≤s.area∧s.area<18446744073709551616
 num:∀s∈S,0≤s.n
 there:∀s∈S,s.cur≠none
 bytes:∀a n v,Ver S a n (some v)→∀y∈v,y<256
theorem cur_of_mem{S:List Sec}(h:SOk S){s:Sec}(hs:s∈S):curOf S s.area s.n=s.cur:=by
 unfold curOf;rw[findS_self h.sorted hs];rfl
theorem text_void{S:List Sec}{a:Int}(h:∀s∈S,s.area≠a):textS S a=[]:=by
 refine text_empty fun i=>?_
 unfold curOf;rw[findS_none_of (fun s hs e=>h s hs e.1)];rfl
theorem nums_view{d t:DS}(hd:SOk d.secs)(ht:SOk t.secs)(hv:View d.secs t.secs):∀x∈numsN t,x∈numsN d:=by
 obtain⟨h1,_⟩:=nums_mem hd.sorted (fun s hs=>(hd.area s hs).1);obtain⟨h3,_⟩:=nums_mem ht.sorted (fun s hs=>(ht.area s hs).1);intro x hx;obtain⟨s,hs1,hs2⟩:=(h3 x).1 hx;have h5:=hv s.area s.n;rw[cur_of_mem ht hs1]at h5;cases hf:findS s.area s.n d.secs with
 |none=>exact absurd ((ver_none hf).1 h5) (ht.there s hs1)
 |some u=>exact(h1 x).2 ⟨u,findS_mem hf,(findS_at hf).1.trans hs2⟩
theorem segs_list{t:DS}{B:List Nat}(ht:SOk t.secs)(hB:B.Pairwise (·<·))(hs:∀x∈numsN t,x∈B):segsOf t.secs (numsN t)=segsOf t.secs B∧plsOf t.secs (numsN t)=plsOf t.secs B:=by
 obtain⟨h3,h4⟩:=nums_mem ht.sorted (fun s hs=>(ht.area s hs).1);have hvoid:∀x∈B,x∉numsN t→segAt t.secs x=none:=fun x _ hx=>segAt_empty (text_void fun s hs e=>hx ((h3 x).2 ⟨s,hs,e⟩))
 refine⟨filterMap_sub _ _ _ h4 hB hs hvoid,filterMap_sub _ _ _ h4 hB hs (fun x hx hxa=>?_)⟩;rw[hvoid x hx hxa];rfl
end Go.Proofs.YthecngkdmnadoaaGreat

namespace Go.Proofs.YthecngkdmnadoaaGreat
open Go.RowKit
set_option maxRecDepth 100000
def AView(S:List Sec)(a:Int)(T:List Sec):Prop:=∀i:Nat,Ver S a (i:Int) (curOf T a (i:Int))
theorem View.area{S T:List Sec}(h:View S T)(a:Int):AView S a T:=fun i=>h a i
def DurS(S:List Sec)(n:Nat)(s:SR):Prop:=∀T,AView S (arN n) T→segAt T n=some s
theorem DurS.keep{S S':List Sec}{n:Nat}{s:SR}(h:DurS S n s)(hk:∀(i:Nat) o,Ver S' (arN n) (i:Int) o→Ver S (arN n) (i:Int) o):DurS S' n s:=fun T hT=>h T fun i=>hk i _ (hT i)
def segP(s:SR):List Nat:=uw s.1++recsW s.2
theorem segP_len(s:SR):(segP s).length=(uw s.1).length+(recsW s.2).length:=List.length_append ..
theorem segP_append(ix:Nat)(a b:List (List Nat)):segP (ix,a++b)=segP (ix,a)++recsW b:=by
 unfold segP;rw[recsW_append,List.append_assoc]
def lowS(s:SR)(kd:Option Nat):Nat:=match kd with
 |none=>0
 |some k=>(segP (s.1,s.2.take k)).length
def CurV(S:List Sec)(n:Nat)(s:SR)(kd:Option Nat):Prop:=∀(i:Nat) o,Ver S (arN n) (i:Int) o→OkV (segP s) (lowS s kd) (uw s.1).length i o
structure CurS(S:List Sec)(n:Nat)(s:SR)(kd:Option Nat):Prop where
 ver:CurV S n s kd
 cur:∀i:Nat,OkV (segP s) (segP s).length (uw s.1).length i (curOf S (arN n) (i:Int))
theorem CurS.keep{S S':List Sec}{n:Nat}{s:SR}{kd:Option Nat}(h:CurS S n s kd)(hv:∀(i:Nat) o,Ver S' (arN n) (i:Int) o→Ver S (arN n) (i:Int) o)(hc:∀i:Nat,curOf S' (arN n) (i:Int)=curOf S (arN n) (i:Int)):CurS S' n s kd:=
 ⟨fun i o ho=>h.ver i o (hv i o ho),fun i=>by rw[hc i];exact h.cur i⟩
structure SmS(s:SR):Prop where
 ix:s.1≤2305843009213693952
 recs:∀x∈s.2,x.length≤512
 len:(segP s).length<4128768
theorem seg_cut{T:List Sec}{n:Nat}{s:SR}(hs:SmS s){j:Nat}(ht:textS T (arN n)=(segP s).take j)(hj:j≤(segP s).length)(hu:j=0∨(uw s.1).length≤j):
 (j=0∧segAt T n=none)∨∃k,k≤s.2.length∧segAt T n=some (s.1,s.2.take k)∧∀k',k'≤s.2.length→(segP (s.1,s.2.take k')).length≤j→k'≤k:=by
 rcases hu with rfl|hu
 · left
   exact⟨rfl,segAt_empty (by show textS T (arN n)=[];rw[ht,List.take_zero])⟩
 · right
   have e:(segP s).take j=uw s.1++(recsW s.2).take (j-(uw s.1).length):=by
    unfold segP;rw[List.take_append,List.take_of_length_le hu]
   rw[e]at ht;rw[segP_len]at hj;(have hl:((recsW s.2).take (j-(uw s.1).length)).length=j-(uw s.1).length:=by rw[List.length_take];omega);obtain⟨k,h1,h2,_,h4⟩:=parse_take s.2 (((recsW s.2).take (j-(uw s.1).length)).length+1) (j-(uw s.1).length) hs.recs (by omega) (by omega);refine⟨k,h1,?_,fun k' hk hl'=>h4 k' hk ?_⟩
   · rw[segAt_text (by have:=hs.ix;omega) ht,h2]
   · rw[segP_len]at hl'
     (have:(recsW (s.2.take k')).length+(uw s.1).length≤j:=by simpa[Nat.add_comm]using hl');omega
theorem recsW_take_le(l:List (List Nat))(k:Nat):(recsW (l.take k)).length≤(recsW l).length:=by
 have:recsW l=recsW (l.take k)++recsW (l.drop k):=by rw[←recsW_append,List.take_append_drop]
 rw[this,List.length_append];omega
theorem CurV.found{S:List Sec}{n:Nat}{s:SR}{kd:Option Nat}(h:CurV S n s kd)(hs:SmS s){T:List Sec}(hT:AView S (arN n) T):
 (kd=none∧segAt T n=none)∨∃k,k≤s.2.length∧(∀d,kd=some d→min d s.2.length≤k)∧segAt T n=some (s.1,s.2.take k):=by
 have hv:∀i:Nat,OkV (segP s) (lowS s kd) (uw s.1).length i (curOf T (arN n) (i:Int)):=fun i=>h i _ (hT i)
 obtain⟨j,h1,h2,h3,h4⟩:=text_found hv hs.len;have hup:0<(uw s.1).length:=(uw_len10 (by have:=hs.ix;omega)).1;rcases seg_cut hs h1 h2 h4 with⟨h5,h6⟩|⟨k,h5,h6,h7⟩
 · cases kd with
   |none=>exact .inl ⟨rfl,h6⟩
   |some d=>
    have h3':(segP (s.1,s.2.take d)).length≤j:=h3;rw[segP_len]at h3';(have:(uw s.1).length≤j:=by simpa using Nat.le_trans (Nat.le_add_right _ _) h3');omega
 · refine .inr ⟨k,h5,fun d hd=>?_,h6⟩
   subst hd;have h3':(segP (s.1,s.2.take d)).length≤j:=h3;refine h7 _ (Nat.min_le_right _ _) ?_;by_cases hdl:d≤s.2.length
   · rw[Nat.min_eq_left hdl];exact h3'
   · rw[Nat.min_eq_right (by omega),List.take_length]
     rwa [List.take_of_length_le (by omega)]at h3'
theorem CurS.whole{S:List Sec}{n:Nat}{s:SR}{kd:Option Nat}(h:CurS S n s kd)(hs:SmS s){T:List Sec}(hT:∀i:Nat,curOf T (arN n) (i:Int)=curOf S (arN n) (i:Int)):segAt T n=some s:=by
 have h1:textS T (arN n)=segP s:=text_whole (h:=(uw s.1).length) (fun i=>by rw[hT i];exact h.cur i) hs.len;have h2:textS T ((4*n+1:Nat):Int)=uw s.1++recsW s.2:=h1;rw[segAt_text (by have:=hs.ix;omega) h2,parse_all s.2 _ hs.recs (Nat.lt_succ_self _)]
theorem CurS.sync{S:List Sec}{n:Nat}{s:SR}{kd:Option Nat}(h:CurS S n s kd):CurS (sy (arN n) S) n s (some s.2.length):=by
 refine⟨fun i o ho=>?_,fun i=>by rw[vcur_sy];exact h.cur i⟩;rw[(ver_sy ho).1 rfl];show OkV (segP s) (segP (s.1,s.2.take s.2.length)).length _ i _;rw[List.take_length];exact h.cur i
theorem CurS.dur{S:List Sec}{n:Nat}{s:SR}(h:CurS S n s (some s.2.length))(hs:SmS s):DurS S n s:=by
 intro T hT;rcases h.ver.found hs hT with⟨h1,_⟩|⟨k,h1,h2,h3⟩
 · cases h1
 · have:=h2 _ rfl
   rw[Nat.min_self]at this;rw[h3,List.take_of_length_le this]
theorem secv_ok{P:List Nat}{s k m h:Nat}(hs:63*s≤P.length)(hk:63*k<P.length-63*s)(hm:m≤P.length)(hh:h≤P.length)(h63:h≤63):OkV P m h (s+k) (some (secv (P.drop (63*s)) k)):=by
 have hl:(((P.drop (63*s)).drop (63*k)).take 63).length≤63:=List.length_take_le ..;have hl2:(((P.drop (63*s)).drop (63*k)).take 63).length=min 63 (P.length-63*s-63*k):=by rw[List.length_take,List.length_drop,List.length_drop]
 refine .inr ⟨_,_,rfl,hl,by omega,saysN_pad hl,?_,by omega,by omega⟩;rw[secv,saysT_pad hl,List.drop_drop,show 63*s+63*k=63*(s+k)by omega,List.take_eq_take_iff];rw[List.drop_drop,show 63*s+63*k=63*(s+k)by omega]at hl2;rw[List.length_drop];rw[hl2];omega
theorem SmS.take{s:SR}(h:SmS s)(k:Nat):SmS (s.1,s.2.take k):=by
 refine⟨h.ix,fun x hx=>h.recs x (List.mem_of_mem_take hx),?_⟩;have h1:=h.len;have h2:=recsW_take_le s.2 k;rw[segP_len]at h1 ⊢;show(uw s.1).length+(recsW (s.2.take k)).length<_;omega
theorem recsW_ge:∀l:List (List Nat),l.length≤(recsW l).length
 |[]=>Nat.zero_le _
 |x::r=>by
  have h1:=recsW_ge r;have h2:=recW_pos x;rw[recsW_cons,List.length_append,List.length_cons];omega
theorem SmS.end{s:SR}(h:SmS s):s.1+s.2.length<4611686018427387904:=by
 have h1:=h.len;have h2:=recsW_ge s.2;have h3:=h.ix;rw[segP_len]at h1;omega
end Go.Proofs.YthecngkdmnadoaaGreat

namespace Go.Proofs.YthecngkdmnadoaaGreat
open Go.RowKit
set_option maxRecDepth 100000
structure LayT(d:DS)(a:Nat)(P':List Nat)(m h:Nat)(r:LayR):Prop where
 e:(r.e=0∧r.d.dead=false)∨(r.e=30∧r.d.dead=true)
 ok:SOk r.d.secs
 room:r.d.room=d.room
 len:r.d.secs.length≤d.secs.length+(P'.length+62)/63
 far:∀a',a'≠(a:Int)→∀n',findS a' n' r.d.secs=findS a' n' d.secs
 here:∀s∈r.d.secs,s.area=(a:Int)∨∃t∈d.secs,t.area=s.area
 ver:∀(i:Nat) o,Ver r.d.secs (a:Int) (i:Int) o→OkV P' m h i o
 cur:r.e=0→∀i:Nat,OkV P' P'.length h i (curOf r.d.secs (a:Int) (i:Int))
 seg:r.e=0→r.sector=P'.length/63∧r.tail=some (P'.drop (63*(P'.length/63)))
theorem ver_ext{S T:List Sec}{a n:Int}(h:findS a n T=findS a n S)(o:Option (List Nat)):Ver T a n o↔Ver S a n o:=by
 unfold Ver;rw[h]
theorem wr_there{a n:Int}{v:List Nat}{S:List Sec}(h:∀s∈S,s.cur≠none):∀t∈wr a n v S,t.cur≠none:=by
 intro t ht;rcases wr_mem ht with h1|⟨_,_,⟨h2,h3⟩|⟨s,_,h2,h3⟩⟩
 · exact h t h1
 · unfold Sec.cur
   rw[h3];simp
 · unfold Sec.cur
   rw[h3];simp
theorem wrD_there{d:DS}{a n:Int}{xs:List Nat}(h:∀s∈d.secs,s.cur≠none):∀t∈(wrD d a n xs).secs,t.cur≠none:=by
 unfold wrD
 split
 · exact h
 · split
   · exact h
   · split
     · exact h
     · exact wr_there h
theorem lay_there(area:Nat):∀(f:Nat) (d:DS) (s:Nat) (left:List Nat),(∀u∈d.secs,u.cur≠none)→∀t∈(layF area f d s left).d.secs,t.cur≠none
 |0,_,_,_,h=>h
 |f+1,d,s,left,h=>by
  by_cases h63:63≤left.length
  · by_cases he:wrE d area s (63::left.take 63)=0
    · rw[layF_go h63 he]
      exact lay_there area f _ _ _ (wrD_there h)
    · rw[layF_bad h63 he]
      exact wrD_there h
  · by_cases h0:left=[]
    · subst h0
      rw[layF_nil];exact h
    · rw[layF_end h63 h0]
      exact wrD_there h
theorem lay_text{d:DS}{a:Nat}{P x:List Nat}{m h:Nat}(hd:SOk d.secs)(hal:d.dead=false)(hv:∀(i:Nat) o,Ver d.secs (a:Int) (i:Int) o→OkV P m h i o)(hc:∀i:Nat,OkV P P.length h i (curOf d.secs (a:Int) (i:Int)))
 (hm:m≤P.length) (hh:h≤(P++x).length) (h63:h≤63) (hr:(d.secs.length:Int)+(((P++x).length+62)/63:Nat)<d.room) (hl:(P++x).length<4128768) (hx:∀y∈P++x,y<256) (ha:a<18446744073709551616):
 LayT d a (P++x) m h (layR d a (P.length/63) (P.drop (63*(P.length/63))++x)):=by
 have hleft:P.drop (63*(P.length/63))++x=(P++x).drop (63*(P.length/63)):=by rw[List.drop_append_of_le_length (by omega)]
 obtain⟨s,hs⟩:∃s,P.length/63=s:=⟨_,rfl⟩;rw[hs]at hleft ⊢;rw[hleft];have hsl:63*s≤P.length:=by omega
 have hsl2:P.length<63*s+63:=by omega
 have hll:((P++x).drop (63*s)).length=(P++x).length-63*s:=List.length_drop ..;have hapl:(P++x).length=P.length+x.length:=List.length_append ..;obtain⟨q1,q2,q3,q4,q5,q6,q7,q8,q9⟩:=layR_main a d s ((P++x).drop (63*s)) hd.sorted hal (by rw[hll];omega) (by rw[hll];omega);have hver:∀(i:Nat) o,Ver (layR d a s ((P++x).drop (63*s))).d.secs (a:Int) (i:Int) o→OkV (P++x) m h i o:=by
  intro i o ho;rcases q6 _ o ho with h1|⟨k,h1,h2,h3⟩
  · exact(hv i o h1).more (Nat.le_refl _) x
  · have hi:i=s+k:=by omega
    rw[h3,hi];exact secv_ok (by omega) (by omega) (by omega) hh h63
 have hmem:∀u∈(layR d a s ((P++x).drop (63*s))).d.secs,u.area=(a:Int)∨u∈d.secs:=by
  intro u hu;by_cases e:u.area=(a:Int)
  · exact .inl e
  · right
    have h1:=findS_self q2 hu;rw[q5 u.area u.n (.inl e)]at h1;exact findS_mem h1
 have hnum:∀u∈(layR d a s ((P++x).drop (63*s))).d.secs,0≤u.n:=by
  intro u hu;by_cases e:u.n<(s:Int)
  · have h1:=findS_self q2 hu
    rw[q5 u.area u.n (.inr e)]at h1;exact hd.num u (findS_mem h1)
  · omega
 refine⟨q1,⟨q2,fun u hu=>?_,hnum,lay_there a _ d s _ hd.there,q9 hd.bytes (fun y hy=>hx y (List.mem_of_mem_drop hy))⟩,q3,by rw[hll]at q4;omega,fun a' ha' n'=>q5 a' n' (.inl ha'),fun u hu=>(hmem u hu).imp id (fun h=>⟨u,h,rfl⟩),hver,fun h0 i=>?_,fun h0=>?_⟩
 · rcases hmem u hu with e|h1
   · rw[e];omega
   · exact hd.area u h1
 · rw[q7 h0 i,hll]
   by_cases c:s≤i∧63*(i-s)<(P++x).length-63*s
   · rw[if_pos c]
     have:=secv_ok (P:=P++x) (s:=s) (k:=i-s) (m:=(P++x).length) (h:=h) (by omega) c.2 (Nat.le_refl _) hh h63
     rwa [show s+(i-s)=i by omega]at this
   · rw[if_neg c]
     rcases hc i with⟨h1,h2⟩|⟨v,c',h1,h2,h3,h4,h5,h6,h7⟩
     · exact .inl ⟨h1,by omega⟩
     · refine .inr ⟨v,c',h1,h2,by omega,h4,?_,?_,h7⟩
       · rw[h5,List.drop_append_of_le_length (by omega),List.take_append_of_le_length (by rw[List.length_drop];omega)]
       · rcases h6 with h6|h6
         · exact .inl h6
         · by_cases his:i<s
           · left;omega
           · right;omega
 · obtain⟨h1,h2⟩:=q8 h0
   rw[hll]at h1 h2;refine⟨by omega,?_⟩;rw[h2,List.drop_drop];congr 2;omega
end Go.Proofs.YthecngkdmnadoaaGreat

namespace Go.Proofs.YthecngkdmnadoaaGreat
open Go.RowKit
set_option maxRecDepth 100000
def strVals(vs:List (List Nat)):List Value:=vs.map fun u => .string (strB u)
def StrOwn(B:Nat)(w:World)(v:Value)(vs:List (List Nat)):Prop:=w.ownsRow B 9 1 v vs.length (strVals vs)
theorem info_str:(Tryz.prog.info? 9).map (fun i=>(i.zero,i.size,i.bytes))=some (some (.string (ByteArray.mk #[])),1,16):=by kernel_rfl
theorem StrOwn.nil(B:Nat)(w:World):StrOwn B w (.slice none 0 0) []:=World.ownsRow_nil _ _ _ _
theorem StrOwn.below{B:Nat}{w w':World}{v:Value}{vs:List (List Nat)}(h:StrOwn B w v vs)(hb:Below w.heap.size w w'):StrOwn B w' v vs:=by
 obtain⟨hl,hn|⟨g,cap,cur,rfl,h1,hg,h2⟩⟩:=h
 · exact⟨hl,.inl hn⟩
 · exact⟨hl,.inr ⟨g,cap,cur,rfl,h1,(hb.block g (Array.getElem?_eq_some_iff.1 hg).1).trans hg,h2⟩⟩
theorem StrOwn.shape{B:Nat}{w:World}{v:Value}{vs:List (List Nat)}(h:StrOwn B w v vs):∃ad cap,v = .slice ad vs.length cap:=by
 obtain⟨hl,⟨e,h0⟩|⟨g,cap,cur,rfl,_⟩⟩:=h
 · exact⟨none,0,by rw[e,h0]⟩
 · exact⟨_,cap,rfl⟩
theorem StrOwn.cell{B:Nat}{w:World}{v:Value}{vs:List (List Nat)}(h:StrOwn B w v vs){i:Nat}{u:List Nat}(hi:vs[i]?=some u):∃g cap,v = .slice (some ⟨g,0,none⟩) vs.length cap∧B≤g∧g<w.heap.size∧vs.length≤cap∧∀j u,vs[j]?=some u→w.cell? ⟨g,j,none⟩=some (.string (strB u)):=by
 obtain⟨hl,⟨e,h0⟩|⟨g,cap,cur,rfl,h1,hg,h2,h3,h4,h5⟩⟩:=h
 · rw[List.eq_nil_of_length_eq_zero h0]at hi
   cases hi
 · refine⟨g,cap,rfl,h1,(Array.getElem?_eq_some_iff.1 hg).1,h2,fun j u hj=>?_⟩
   (have e:(strVals vs)[j]?=some (.string (strB u)):=by rw[strVals,List.getElem?_map,hj];rfl);rw[←h5,List.getElem?_take]at e
   split at e
   · simpa[World.cell?,hg]using e
   · cases e
theorem append_trun{w:World}{B:Nat}{v:Value}{l:List (List Nat)}(x:List Nat)(nb c:Nat)(hown:StrOwn B w v l)(hx:w.cell? ⟨nb,0,none⟩=some (.string (strB x)))(hB:B≤w.heap.size)(h63:l.length<2199023255552)(ty:TypeId):
 ∃v' w',(Builtin.append_ #[31,31] ty #[v,.slice (some ⟨nb,0,none⟩) 1 c]).run Tryz.prog w = .ok v' w'∧StrOwn B w' v' (l++[x])∧w.grownBy w' v.ownBlock:=by
 obtain⟨i0,hi,hz0,hz1,hz2⟩:=info_parts info_str;obtain⟨v',w',h1,h2,h3,_⟩:=run_append_own (P:=Tryz.prog) w B 31 ty 9 i0 _ 1 16 Tryz.underlying31 hi hz0 hz1 hz2 rfl (by decide) v l.length _ hown ⟨nb,0,none⟩ 1 c [.string (strB x)] rfl (fun j u hj=>by
  match j,hj with
  |0,hj=>simp at hj;rw[←hj];simpa[Addr.add]using hx
  |j+1,hj=>simp at hj) (by intro u hu;simp at hu;rw[hu];rfl) (by simp only[maxLen];omega) (by omega) hB
 refine⟨v',w',h1,?_,h3⟩;unfold StrOwn;rw[List.length_append,strVals,List.map_append];exact h2
theorem append_t{W:World}{ops:Array Oper}{rest:List Oper}{o:Oper}{a:Act}{Q:Exit→Act→World→Prop}(hgd:o.guard=none)(s y:Operand)(x:List Nat)(T:TypeId)
 (ho:o.op = .call { callee := .builtin .append,args:=#[s,y],argTypes:=#[31,31] }) (B nb c:Nat) (v:Value) (l:List (List Nat)) (hs:a.eval s=v) (hown:StrOwn B W v l) (hx:a.eval y = .slice (some ⟨nb,0,none⟩) 1 c) (hnb:nb=W.heap.size) (h63:l.length<2199023255552) (hB:B≤W.heap.size)
 (h:∀v' w',StrOwn B w' v' (l++[x])→Below B W w'→wpList Tryz.prog ops Q rest (a.put o.dst v') w'):wpList Tryz.prog ops Q (o::rest) a (W.alloc (.cells #[.string (strB x)] T)):=by
 subst hnb;have hb:Below W.heap.size W (W.alloc (.cells #[.string (strB x)] T)):=(Below.refl _ W).alloc (Nat.le_refl _) _;obtain⟨v',w',h1,h2,h3⟩:=append_trun (w:=W.alloc (.cells #[.string (strB x)] T)) x W.heap.size c (hown.below hb) (by simp) (by simp;omega) h63 o.type;refine wpList_plain hgd fun _ hK=>?_
 unfold Oper.wp execOp;simp only[ho,resolve,invoke,builtin,Sem.run_bind,Sem.run_pure,Result.andThen_ok,List.map_toArray,List.map_cons,List.map_nil,hs,hx,h1];exact hK _ _ (h v' w' h2 (((hb.mono hB).grown h3 (by simp;omega) (fun k hk=>(World.ownsRow.lt hown k hk).1))))
end Go.Proofs.YthecngkdmnadoaaGreat
