import Derived.Test.YtkdhdehobdfakaaGreatDoorFState2
set_option maxRecDepth 100000
set_option maxHeartbeats 8000000
namespace Go.Proofs.YtkdhdehobdfakaaGreatDoor
section
open Go.RowKit Nums Fm
def zAl(l:List Pr):Int:=if 4096<l.length then 70 else zBc none l
def zAf(l:List Pr):Int×List St:=if zAl l=0∧l≠[]then (least (ents l),(stF 25 [] (ents l)).1)else (0,[])
def StRow(B:Nat)(w:World)(vs:Value)(b:List St):Prop:=∃xss,GOwn 56 3 B w vs xss∧xss.length=b.length∧∀(i:Nat) (s:St),b[i]?=some s→∃va,xss[i]?=some [.bool s.final,.int .i64 s.out,va]∧AOwn B w va s.arcs
theorem StRow.nil(B:Nat)(w:World):StRow B w (.slice none 0 0) []:=⟨[],GOwn.nil _ _ _ _,rfl,fun i s hi=>by simp at hi⟩
theorem StRow.below{B:Nat}{w w':World}{vs:Value}{b:List St}(h:StRow B w vs b)(hb:Below w.heap.size w w'):StRow B w' vs b:=by
 obtain⟨xss,h1,h2,h3⟩:=h;refine⟨xss,h1.below hb,h2,fun i s hi=>?_⟩;obtain⟨va,h4,h5⟩:=h3 i s hi;exact⟨va,h4,GOwn.below h5 hb⟩
theorem StRow.mono{B B':Nat}{w:World}{vs:Value}{b:List St}(h:StRow B w vs b)(hb:B'≤B):StRow B' w vs b:=by
 obtain⟨xss,h1,h2,h3⟩:=h;refine⟨xss,h1.mono hb,h2,fun i s hi=>?_⟩;obtain⟨va,h4,h5⟩:=h3 i s hi;exact⟨va,h4,GOwn.mono h5 hb⟩
theorem zF6:∀(l:List Pr) (p:Option Pr),zBc p l=0→∀x∈l,zAq x.1.data.toList=true∧1≤x.2∧x.2≤1048576
 |[],_,_,x,hx=>by cases hx
 |y::r,p,h,x,hx=>by
  rw[zBc]at h;by_cases h0:oneF p y=0
  · rw[if_pos h0]at h
    rcases List.mem_cons.1 hx with rfl|hx
    · unfold oneF at h0
      split at h0
      · cases h0
      · split at h0
        · cases h0
        · rename_i h1 h2
          exact⟨by simpa using h1,by omega,by omega⟩
    · exact zF6 r _ h x hx
  · rw[if_neg h0]at h;exact absurd h h0
theorem zGx:∀(l:List Pr) (p:Option Pr),zBc p l=0→(∀q,p=some q→∀x∈l,zAa q.1 x.1=true)∧l.Pairwise (fun a b=>zAa a.1 b.1=true)
 |[],_,_=>⟨fun q _ x hx=>(by cases hx),List.Pairwise.nil⟩
 |y::r,p,h=>by
  rw[zBc]at h;by_cases h0:oneF p y=0
  · rw[if_pos h0]at h
    obtain⟨h1,h2⟩:=zGx r (some y) h;have hp:zFs p y=true:=by
     unfold oneF at h0
     split at h0
     · cases h0
     · split at h0
       · cases h0
       · split at h0
         · cases h0
         · rename_i h;simpa using h
    refine⟨fun q hq x hx=>?_,List.pairwise_cons.2 ⟨fun x hx=>h1 y rfl x hx,h2⟩⟩;subst hq;rcases List.mem_cons.1 hx with rfl|hx
    · exact hp
    · exact lessB_sto.tr _ _ _ hp (h1 y rfl x hx)
  · rw[if_neg h0]at h;exact absurd h h0
theorem zA3{x:Pr}(h:zAq x.1.data.toList=true):∃xs,rs x.1.data.toList=some xs∧1≤xs.length∧xs.length≤24∧x.1.size≤96∧xs.all isR=true:=by
 have hw:=h;unfold zAq at h;cases hr:rs x.1.data.toList with
 |none=>rw[hr]at h;cases h
 |some xs=>
  rw[hr]at h;simp only[Bool.and_eq_true,decide_eq_true_eq]at h;have h1:=(rs_len hr).1;rw[zAk]at h1;exact⟨xs,rfl,h.1.1,h.1.2,by omega,(zEo hr).1⟩
structure DictOk(l:List Pr):Prop where
 wd:Wd l
 en:EnOk (ents l)
 rise:Rise (ents l)
 len:l.length≤4096
 pos:∀e∈ents l,e.1≠[]
theorem zB0{l:List Pr}(h:zAl l=0):DictOk l:=by
 unfold zAl at h
 split at h
 · cases h
 · rename_i hl
   have ha:=zF6 l none h;have hR:=(zGx l none h).2;have hent:∀e∈ents l,∃x∈l,∃xs,rs x.1.data.toList=some xs∧e=(xs,x.2)∧1≤xs.length∧xs.length≤24∧xs.all isR=true:=fun e he=>by
    obtain⟨x,hx,rfl⟩:=List.mem_map.1 he;obtain⟨xs,h1,h2,h3,_,h4⟩:=zA3 (ha x hx).1;exact⟨x,hx,xs,h1,by rw[zCx,h1];rfl,h2,h3,h4⟩
   refine⟨fun x hx=>?_,⟨fun e he=>?_,fun e he c hc=>?_,fun e he=>?_⟩,?_,by omega,fun e he=>?_⟩
   · obtain⟨xs,h1,h2,h3,h4,_⟩:=zA3 (ha x hx).1
     exact⟨xs,h1,h3,h4⟩
   · obtain⟨x,hx,rfl⟩:=List.mem_map.1 he
     exact(ha x hx).2
   · obtain⟨x,hx,xs,h1,rfl,h2,h3,h4⟩:=hent e he
     have:=of_decide_eq_true (List.all_eq_true.1 h4 c hc);constructor<;>omega
   · obtain⟨x,hx,xs,h1,rfl,h2,h3,h4⟩:=hent e he
     exact h3
   · unfold Rise ents
     rw[List.pairwise_map];refine List.Pairwise.imp_of_mem ?_ hR;intro a b ha' hb' hab;obtain⟨xs,h1,_⟩:=zA3 (ha a ha').1;obtain⟨ys,h2,_⟩:=zA3 (ha b hb').1;rw[zCx,zCx,h1,h2];show lexL xs ys=true;rw[←order_rs h1 h2,←zLg];exact hab
   · obtain⟨x,hx,xs,h1,rfl,h2,h3,h4⟩:=hent e he
     exact List.length_pos_iff.1 (show 0<xs.length by omega)
theorem zPx{l:List En}(h:∀e∈l,e.1.length≤24):bulk l≤l.length*25:=by
 induction l with
 |nil=>simp[bulk]
 |cons e r ih=>
  have h1:=h e (by simp);have h2:=ih fun x hx=>h x (by simp[hx])
  rw[zEk,List.length_cons];omega
structure BuildSays(w w':World)(l:List Pr)(base:Int)(vs:Value)(b:List St):Prop where
 bel:Below w.heap.size w w'
 row:StRow w.heap.size w' vs b
 mach:zAf l=(base,b)
end
section
open Nums Fm
namespace Fm
theorem zCp{D:List (List En)}{b:List St}(h:Inv D b){i:Nat}{s:St}(hi:b[i]?=some s):(s.final=true→0≤s.out)∧(∀a∈s.arcs,0≤a.out)∧((s.final=true∧s.out=0)∨∃a∈s.arcs,a.out=0):=by
 obtain⟨e1,_,c⟩:=h.row i s hi;obtain⟨hne,hl⟩:=h.lv _ (List.mem_of_getElem? e1);have hall:∀e∈exp D s,0≤e.2:=fun e he=>by rw[←hl];exact zCb he
 have hmem:∀a∈s.arcs,∀x∈D[a.to]?.getD [],pre a.label (x.1,x.2+a.out)∈exp D s:=fun a ha x hx=>by
  refine List.mem_append_right _ (List.mem_flatMap.2 ⟨_,List.mem_map.2 ⟨a,ha,rfl⟩,List.mem_map.2 ⟨(x.1,x.2+a.out),?_,rfl⟩⟩);exact List.mem_map.2 ⟨x,hx,rfl⟩
 have hout:∀a∈s.arcs,0≤a.out:=fun a ha=>by
  have hv:=h.lv _ (List.getElem_mem (c.to a ha));obtain⟨x,hx,h0⟩:=zBz hv.1;have:=hall _ (hmem a ha x (by rw[List.getElem?_eq_getElem (c.to a ha)];exact hx));simp only[pre]at this;omega
 refine⟨fun hf=>hall ([],s.out) (List.mem_append_left _ (by simp[fins,hf])),hout,?_⟩;obtain⟨e,he,h0⟩:=zBz hne;rw[hl]at h0;rcases List.mem_append.1 he with he|he
 · unfold fins at he
   split at he
   · rename_i hf
     rw[List.mem_singleton.1 he]at h0;exact .inl ⟨hf,h0⟩
   · cases he
 · obtain⟨p,hp,h2⟩:=List.mem_flatMap.1 he
   obtain⟨a,ha,rfl⟩:=List.mem_map.1 hp;obtain⟨y,hy,rfl⟩:=List.mem_map.1 h2;obtain⟨x,hx,rfl⟩:=List.mem_map.1 hy;rw[List.getElem?_eq_getElem (c.to a ha),Option.getD_some]at hx;have hv:=h.lv _ (List.getElem_mem (c.to a ha));have h1:=zCb hx;rw[hv.2]at h1;have h2:=hout a ha;simp only[pre]at h0;exact .inr ⟨a,ha,by omega⟩
end Fm
theorem zLr{l:List Pr}(h:l≠[]):ents l≠[]:=by simp[ents,h]
theorem zCd{l:List Pr}(h:zAl l=0)(hl:l≠[]):Fm.Good 25 (ents l):=by
 have hd:=zB0 h;exact⟨zLr hl,hd.rise,fun e he=>by have:=hd.en.ln e he;omega⟩
end
