/-
  Oc Od Of, joined.
  Conditions: those that each states.
-/
import Derived.Test.YthofhjnfkholoaaGreatDoorQ40
namespace Go.Proofs.YthofhjnfkholoaaGreatDoor
section
set_option maxHeartbeats 8000000
set_option maxRecDepth 100000
open Go.RowKit Go.Maps

def bh (L:List bA):List (Nat×ByteArray×Nat):=L.flatMap fun y=>y.fs.map fun f=>(y.k,f.1,f.2)
theorem ir {L:List bA} {i:Nat} {y:bA} (h:L[i]? = some y):bh L=bh (L.take i)++((y.fs.map fun f=>(y.k,f.1,f.2))++bh (L.drop (i+1))):=by
 conv=>lhs;rw [<-j8 i L]
 unfold bh;rw [qp,ql (jb.1 h).1,jZ,(jb.1 h).2]
theorem Fe {s:aA} {L:List bA} {i k:Nat} {y:bA} {f:ByteArray×Nat} (hy:L[i]? = some y) (hf:y.fs[k]? = some f) (h1:∀z∈L.take i,∀g∈z.fs,gW s g.2=g.2) (h2:∀g∈y.fs.take k,gW s g.2=g.2) (hne:¬gW s f.2=f.2):eY s (bh L)=some (y.k,f.1,f.2):=by
 unfold eY
 have e1:(bh (L.take i)).find? (fun f=>decide (¬gW s f.2.2=f.2.2))=none:=by
  refine yl.2 fun x hx=>?_;obtain ⟨z,hz,hx⟩:=jY.1 hx;obtain ⟨g,hg,rfl⟩:=jv.1 hx
  simp [h1 z hz g hg]
 rw [ir hy,List.find?_append,e1,Option.none_or,List.find?_append]
 have e2:(y.fs.map fun f=>(y.k,f.1,f.2)).find? (fun f=>decide (¬gW s f.2.2=f.2.2))=some (y.k,f.1,f.2):=by
  refine za (i:=k) (by rw [jx,hf];rfl) (by simp [hne]) fun j x hj hx=>?_;rw [jx] at hx;obtain ⟨g,hg,rfl⟩:=qP.1 hx
  have:=h2 g (jg (i:=j) (by rw [List.getElem?_take,zj hj];exact hg))
  simp [this]
 rw [e2];rfl
theorem AX {s:aA} {L:List bA} (h1:∀z∈L,∀g∈z.fs,gW s g.2=g.2):eY s (bh L)=none:=by
 refine yl.2 fun x hx=>?_;obtain ⟨z,hz,hx⟩:=jY.1 hx;obtain ⟨g,hg,rfl⟩:=jv.1 hx
 simp [h1 z hz g hg]
def m8 (s:aA) (q n:Nat):Prop:=∀r,r<n->¬(dE s.bl s.tab r=true/\dE s.bl s.tab q=true/\co s.bl s.tab r=co s.bl s.tab q)
theorem m8.next {s:aA} {q n:Nat} (h:m8 s q n) (hn:¬(dE s.bl s.tab n=true/\dE s.bl s.tab q=true/\co s.bl s.tab n=co s.bl s.tab q)):m8 s q (n+1):=fun r hr=>by
 rcases qO r n with h1|h1
 ·exact h r h1
 ·obtain rfl:r=n:=by omega
  exact hn
theorem m8.self {s:aA} {q:Nat} (h:m8 s q q):gW s q=q:=by
 have hle:=Jv s q
 cases hk:dE s.bl s.tab q with
 | false=>exact ko hk
 | true =>
  obtain ⟨_,h2,h3,_⟩:=gN hk
  rcases qO (gW s q) q with h1|h1
  ·exact absurd ⟨h2,hk,h3⟩ (h _ h1)
  ·omega
theorem m8.found {s:aA} {q n:Nat} (h:m8 s q n) (h1:dE s.bl s.tab n=true) (h2:dE s.bl s.tab q=true) (h3:co s.bl s.tab n=co s.bl s.tab q):gW s q=n:=by
 obtain ⟨_,g2,g3,g4⟩:=gN h2
 have:=g4 n h1 h3
 rcases qO (gW s q) n with h5|h5
 ·exact absurd ⟨g2,h2,g3⟩ (h _ h5)
 ·omega
theorem wK {s:aA} {q:Nat} {y:ak} (hy:af s.tab q=some y):(dE s.bl s.tab q=true/\bm s.bl y=((co s.bl s.tab q).1,0))∨(dE s.bl s.tab q=false/\bm s.bl y=({ data:=#[] },11)):=by
 unfold dE co bm;rw [hy];by_cases h:aQ (au s.bl y.blocks y.bytes)=y.sum
 ·left;simp [h]
 ·right;simp [h]
section
variable {w : World} {B B' D mw mt md next lc lc2 ic : Nat} {la la2 ia : Option Addr} {L : List bA} {us vs vs2 : List Value} {s : aA}
theorem G4 (M:bi w B D mw mt la lc L us vs next) (Mt:ay w B' mt md la2 lc2 ia ic s.bl s.tab vs2) (O:y6 s.bl s.tab) (hl:L.length<=1000) (hfl:∀y∈L,y.fs.length<=100000) (hin:∀y∈L,∀f∈y.fs,∃z,af s.tab f.2=some z) (P:Nat×ByteArray×Nat->World->Prop)
  (hsh:∀f,eY s (bh L)=some f->∀W,Bl w W->Cl 88 #[.pointer (some ⟨mw,0,none⟩),.int .i64 (f.1:Int),.string f.2.1,.int .i64 (gW s f.2.2:Int)] W fun e w'=>(∃c:Int,e = .returned (.int .i64 c))/\P f w'/\w'.cell? ⟨mw,1,none⟩=some (.slice la L.length lc)/\∀g i y,la=some ⟨g,0,none⟩->L[i]? = some y->w'.cell? ⟨g,i*6,none⟩=some (.int .i64 (y.k:Int))) :
  Cl 51 #[.pointer (some ⟨mw,0,none⟩)] w fun e w'=>(eY s (bh L)=none/\e = .returned (.bool false)/\Bl w w')∨∃f,eY s (bh L)=some f/\e = .returned (.bool true)/\P f w':=by
 have HM:Hid (∀W,Bl w W->bi W B D mw mt la lc L us vs next):=fun W h=>M.below h
 have HIS:Hid (∀(n:Nat) W,Bl w W->Cl 38 #[.pointer (some ⟨mt,0,none⟩),.int .i64 (n:Int)] W fun e w'=>e = .returned (.bool (af s.tab n).isSome)/\w'=W):=fun n W hW=>by
  have h:=lm (n:Int) W (Mt.below hW);rw [eJ] at h;exact h
 have HRD:Hid (∀(q:Nat) x,af s.tab q=some x->∀W,Bl w W->Cl 40 #[.pointer (some ⟨mt,0,none⟩),.int .i64 (q:Int)] W fun e w'=>e = .returned (.tuple #[.string (bm s.bl x).1,.int .i64 (bm s.bl x).2])/\Bl W w'):=fun q x hx W hW=>by
  obtain ⟨h1,h2,h3,_⟩:=O.ino q x hx;exact jP q x hx W (Mt.below hW) h1 O.b16 h2 h3
 have HMT:Hid (∀(q:Nat) x,af s.tab q=some x->∃ig,ia=some ⟨ig,0,none⟩/\∀W,Bl w W->W.cell? ⟨mt,1,none⟩=some (.slice ia s.tab.length ic)/\W.cell? ⟨ig,q*6+3,none⟩=some (.bool x.exec)):=fun q x hx=>by
  obtain ⟨_,g,_,e1,_⟩:=Mt.slot (cM hx);refine ⟨g,e1,fun W hW=>?_⟩;obtain ⟨_,g',_,e2,h2,_⟩:=(Mt.below hW).slot (cM hx)
  have:g'=g:=by rw [e1] at e2;simpa using e2.symm
  subst this;exact ⟨(Mt.below hW).cells.2.1,h2 3 _ rfl⟩
 have htl:s.tab.length<=100000:=O.len;have HSHO:Hid _:=hsh;have HIN:Hid _:=hin;have HFL:Hid _:=hfl;clear M Mt O hsh hin hfl;go_enter Tryz.func51,Tryz.ntmps51;go_wp2_with fail
 go_loopw [3] (fun iv wr=>∃i:Nat,i<=L.length/\iv = .int .i64 (i:Int)/\Hid ((∀z∈L.take i,∀g∈z.fs,gW s g.2=g.2)/\Bl w wr)) (fun iv _=>L.length-(intOf iv).toNat)
 case atStart=>exact ⟨0,jq _,rfl,by simp,je _ _⟩
 case round =>
  obtain ⟨i,hi,rfl,HI⟩:=hrel;have hi0:(0:Int)<=(i:Int):=(by omega);have HBr:=kH HI.out.2;have dd1:=(HM.out wr HBr.out).cells.2.1;by_cases hlt:i<L.length
  ·obtain ⟨y,hy⟩:∃y,L[i]? = some y:=⟨_,jc hlt⟩
   have hym:=jg hy;have hfs:=HFL.out y hym;obtain ⟨g,ua,uc,va,vc,hla,hua,hva,k0,_,_,_,_,k5⟩:=(HM.out w (je _ _)).at hy;have hrow:w.ownsRow B 63 2 (.slice va y.fs.length vc) y.fs.length (y.fs.flatMap d6):=(HM.out w (je _ _)).files i y _ hy hva
   have HC:Hid (∀W,Bl w W->W.cell? ⟨mw,0,none⟩=some (.pointer (some ⟨mt,0,none⟩))/\W.cell? ⟨mw,1,none⟩=some (.slice (some ⟨g,0,none⟩) L.length lc)/\W.cell? ⟨g,i*6,none⟩=some (.int .i64 (y.k:Int))/\W.cell? ⟨g,i*6+5,none⟩=some (.slice va y.fs.length vc)):=fun W hW=>by
    have h:=(HM.out W hW).cells;exact ⟨h.1,by rw [<-hla];exact h.2.1,by rw [hW.cell (p:=⟨g,i*6,none⟩) (ji w _ k0)];exact k0,by rw [hW.cell (p:=⟨g,i*6+5,none⟩) (ji w _ k5)];exact k5⟩
   have HFR:Hid (∀(k:Nat) f,y.fs[k]? = some f->∃fg,va=some ⟨fg,0,none⟩/\∀W,Bl w W->W.cell? ⟨fg,k*2,none⟩=some (.string f.1)/\W.cell? ⟨fg,k*2+1,none⟩=some (.int .i64 (f.2:Int))):=fun k f hf=>by
    obtain ⟨fg,fcp,ef,_,f0,f1⟩:=iR hrow hf;simp only [jo] at ef;exact ⟨fg,ef.1,fun W hW=>⟨by rw [hW.cell (p:=⟨fg,k*2,none⟩) (ji w _ f0)];exact f0,by rw [hW.cell (p:=⟨fg,k*2+1,none⟩) (ji w _ f1)];exact f1⟩⟩
   have HIY:=kH (HIN.out y hym);have HNX:Hid (∀(k:Nat) f,y.fs[k]? = some f->(∀g∈y.fs.take k,gW s g.2=g.2)->¬gW s f.2=f.2->eY s (bh L)=some (y.k,f.1,f.2)):=fun k f hf h2 h3=>Fe hy hf HI.out.1 h2 h3
   have HTN:Hid ((∀g∈y.fs,gW s g.2=g.2)->∀z∈L.take (i+1),∀g∈z.fs,gW s g.2=g.2):=fun h z hz=>by
    rw [dD hy,jT,jF] at hz
    rcases hz with hz|rfl
    ·exact HI.out.1 z hz
    ·exact h
   subst hla;have c0:=HC.out wr HBr.out;have c01:=c0.2.1;have c05:=c0.2.2.2;obtain ⟨nl,HNL⟩:∃nl,Hid (nl=L.length):=⟨_,rfl⟩;obtain ⟨yk,HYK⟩:∃yk,Hid (yk=y.k):=⟨_,rfl⟩;have hil:i<nl:=by rw [HNL.out];exact hlt
   have HSG:Hid (∀p q n,eY s (bh L)=some (y.k,p,q)->gW s q=n->∀W,Bl w W->Cl 88 #[.pointer (some ⟨mw,0,none⟩),.int .i64 (y.k:Int),.string p,.int .i64 (n:Int)] W fun e w'=>(∃c:Int,e = .returned (.int .i64 c))/\P (y.k,p,q) w'/\w'.cell? ⟨mw,1,none⟩=some (.slice (some ⟨g,0,none⟩) nl lc)/\w'.cell? ⟨g,i*6,none⟩=some (.int .i64 (y.k:Int))):=fun p q n h1 h2 W hW=>by
    have h:=HSHO.out (y.k,p,q) h1 W hW;simp only [h2] at h;exact h.mono fun e w' ⟨he,hp,hc,hk⟩=>⟨he,hp,by rw [HNL.out];exact hc,hk g i y rfl hy⟩
   have HCN:Hid (∀W,Bl w W->W.cell? ⟨mw,1,none⟩=some (.slice (some ⟨g,0,none⟩) nl lc)):=fun W hW=>(by rw [HNL.out];exact (HC.out W hW).2.1);rw [<-HYK.out] at HC HNX HSG;clear hym hy hua hva k0 k5 hrow c0 dd1 HI HYK HNL HSHO;generalize y.fs=fs at *;go_wp2_with fail
   go_loopw [4] (fun kv wk=>∃k:Nat,k<=fs.length/\kv = .int .i64 (k:Int)/\Hid ((∀g∈fs.take k,gW s g.2=g.2)/\Bl w wk)) (fun kv _=>fs.length-(intOf kv).toNat)
   case atStart=>exact ⟨0,jq _,rfl,by simp,HBr.out⟩
   case round =>
    obtain ⟨k,hk,rfl,HK⟩:=hrel;rename World=>wk;have hk0:(0:Int)<=(k:Int):=(by omega);have HBk:=kH HK.out.2;have ck:=HC.out wk HBk.out;have ck1:=ck.2.1;have ck5:=ck.2.2.2;clear ck;by_cases hltk:k<fs.length
    ·obtain ⟨f,hf⟩:∃f,fs[k]? = some f:=⟨_,jc hltk⟩
     obtain ⟨fg,rfl,hfc⟩:=HFR.out k f hf;obtain ⟨f0,f1⟩:=hfc wk HBk.out;obtain ⟨yq,hyq⟩:=HIY.out f (jg hf);have HNK:Hid (¬gW s f.2=f.2->eY s (bh L)=some (yk,f.1,f.2)):=fun h3=>HNX.out k f hf HK.out.1 h3
     have HKN:Hid (gW s f.2=f.2->∀g∈fs.take (k+1),gW s g.2=g.2):=fun h g hg=>by
      rw [dD hf,jT,jF] at hg
      rcases hg with hg|rfl
      ·exact HK.out.1 g hg
      ·exact h
     obtain ⟨p,q⟩:=f
     simp only at f0 f1 hyq HNK HKN
     have hqt:=aO hyq;obtain ⟨W0,HW0⟩:∃W0,Hid (W0=wk.alloc (.cells #[.string p,.int .i64 (q:Int)] 63)):=⟨_,rfl⟩;obtain ⟨fb,HFB⟩:∃fb,Hid (fb=wk.heap.size):=⟨_,rfl⟩;have hbw:Bl wk W0:=by rw [HW0.out];exact (je _ _).alloc (jd _) _
     have HB0:=kH (HBk.out.trans (hbw.mono HBk.out.size));have hX0:W0.heap[fb]? = some (.cells #[.string p,.int .i64 (q:Int)] 63 (0,0)):=by rw [HW0.out,HFB.out];exact heap_alloc_last _ _
     have HBX:Hid (∀W,Bl W0 W->W.cell? ⟨fb,1,none⟩=some (.int .i64 (q:Int))):=fun W hW=>by
      rw [ze _ _ _ _ _ _ ((hW.block fb (ja.1 hX0).1).trans hX0)];rfl
     have HBY:Hid (∀W,Bl W0 W->W.cell? ⟨fb,0,none⟩=some (.string p)):=fun W hW=>by
      rw [ze _ _ _ _ _ _ ((hW.block fb (ja.1 hX0).1).trans hX0)];rfl
     have HRQ0:Hid _:=HRD.out q yq hyq;obtain ⟨ig,hig,hmq⟩:=HMT.out q yq hyq;have HMQ:Hid _:=hmq;have HOQ:Hid _:=wK hyq;have HEQ:Hid ((co s.bl s.tab q).2=yq.exec):=by show _=_;unfold co;rw [hyq]
     clear hf hfc hbw hX0 HK hyq hmq HFR HIY HNX
     go_upto_region 8 with fail
     rw [<-HW0.out,<-HFB.out];clear HW0 HFB f0 f1 ck1 ck5;go_wp2_with fail
     go_loopw [6] (fun nv wq=>∃n:Nat,n<=q/\nv = .int .i64 (n:Int)/\Hid (m8 s q n/\Bl w wq/\Bl W0 wq)) (fun nv _=>q-(intOf nv).toNat)
     case atStart=>exact ⟨0,jq _,rfl,fun r hr=>by omega,HB0.out,je _ _⟩
     case round =>
      obtain ⟨n,hn,rfl,HN⟩:=hrel;rename World=>wq;have hn0:(0:Int)<=(n:Int):=(by omega);have HBq:=kH HN.out.2.1;have HB0q:=kH HN.out.2.2;have HNL2:=kH HN.out.1;have x1:=HBX.out wq HB0q.out;have d0:=(HC.out wq HBq.out).1;clear HN;by_cases hltn:n<q
      ·have hltn':(n:Int)<(q:Int):=by omega
       have HISn:=HIS.out n wq HBq.out
       cases hzn:af s.tab n with
       | none =>
        rw [hzn] at HISn;have HN2:Hid (m8 s q (n+1)):=HNL2.out.next (fun h=>by obtain ⟨z,hz⟩:=sY h.1;rw [hzn] at hz;cases hz);go_wp2_with fail
        refine jk HISn ?_;rintro e w2 ⟨rfl,rfl⟩;clear HISn;go_wp2_with fail
        exact ⟨⟨n+1,by omega,by simp,HN2.out,HBq.out,HB0q.out⟩,by simp [intOf];omega⟩
       | some zn =>
        rw [hzn] at HISn;have HRN0:Hid _:=HRD.out n zn hzn;obtain ⟨ig',hig',hmn⟩:=HMT.out n zn hzn;obtain rfl:ig'=ig:=by rw [hig] at hig';simpa using hig'.symm
        have HON:=wK hzn;have HEN:Hid ((co s.bl s.tab n).2=zn.exec):=by show _=_;unfold co;rw [hzn]
        have hnt:=aO hzn;obtain ⟨tl,HTL⟩:∃tl,Hid (tl=s.tab.length):=⟨_,rfl⟩;obtain ⟨en,HEn⟩:∃en,Hid (en=zn.exec):=⟨_,rfl⟩;obtain ⟨eq,HEq⟩:∃eq,Hid (eq=yq.exec):=⟨_,rfl⟩
        have HT:Hid (∀W,Bl w W->W.cell? ⟨mt,1,none⟩=some (.slice (some ⟨ig',0,none⟩) tl ic)/\W.cell? ⟨ig',n*6+3,none⟩=some (.bool en)/\W.cell? ⟨ig',q*6+3,none⟩=some (.bool eq)):=fun W hW=>by
         rw [HTL.out,HEn.out,HEq.out,<-hig];exact ⟨(hmn W hW).1,(hmn W hW).2,(HMQ.out W hW).2⟩
        rw [<-HTL.out] at hqt hnt htl;have HQO:=HOQ.out;obtain ⟨RA,HRA⟩:∃RA,Hid (RA=bm s.bl yq):=⟨_,rfl⟩;obtain ⟨RC,HRC⟩:∃RC,Hid (RC=bm s.bl zn):=⟨_,rfl⟩;have HRQ:Hid _:=HRQ0.out;have HRN:Hid _:=HRN0.out;rw [<-HRA.out] at HRQ HQO;rw [<-HRC.out] at HRN HON;clear HRA HRC hmn hig hig'
        have HLQ:Hid (co s.bl s.tab n=co s.bl s.tab q↔(co s.bl s.tab n).1=(co s.bl s.tab q).1/\en=eq):=by
         show _↔_;rw [HEn.out,HEq.out,<-HEN.out,<-HEQ.out,Prod.ext_iff]
        obtain ⟨A,ea⟩:=RA;obtain ⟨C,ec⟩:=RC
        simp only at HRQ HRN
        clear HTL HEn HEq HEN;go_wp2_with fail
        refine jk HISn ?_;rintro e w2 ⟨rfl,rfl⟩;clear HISn x1 d0
        go_upto_region 13 with fail
        refine zh (S:=fun w'=>w'.cell? ⟨mw,0,none⟩=some (.pointer (some ⟨mt,0,none⟩))/\w'.cell? ⟨fb,1,none⟩=some (.int .i64 (q:Int))) (by kernel_rfl) (by exact ⟨(HC.out _ HBq.out.drew).1,HBX.out _ HB0q.out.drew⟩) (fun hHeld=>?_);refine aW [(0,pZ mw 0),(1,pZ mw 0),(2,pZ mw 0),(3,pZ mt 0),(4,pZ fb 1),(5,iZ q)] hHeld ?_;refine aC 6 rfl (fun K' hK=>?_);simp only [ai];go_simp;refine jk (HRQ.out _ HBq.out.drew) ?_;rintro e w3 ⟨rfl,hb3⟩;have HB3:=kH (HBq.out.drew.trans (hb3.mono HBq.out.drew.size));have HB03:=kH (HB0q.out.drew.trans (hb3.mono HB0q.out.drew.size));clear hb3;go_wp2_with fail
        refine hK.out _ _ (by exact ⟨(HC.out _ HB3.out).1,HBX.out _ HB03.out⟩) (fun hHeld=>?_);clear hK K';refine aW [(7,.tuple #[.string A,.int .i64 ea]),(8,.string A),(10,.string A),(9,iZ ea),(11,iZ ea)] hHeld ?_;refine zk (by kernel_rfl) ?_ _;have d3:=(HC.out w3 HB3.out).1;clear hHeld;go_wp2_with fail
        refine jk (HRN.out _ HB3.out) ?_;rintro e w4 ⟨rfl,hb4⟩;have HB4:=kH (HB3.out.trans (hb4.mono HB3.out.size));have HB04:=kH (HB03.out.trans (hb4.mono HB03.out.size));clear hb4 d3 HB3 HB03 HRN HRQ
        go_upto_region 15 with fail
        rcases HQO with ⟨hoq,hA⟩|⟨hoq,hA⟩
        ·obtain ⟨rfl,rfl⟩:=Prod.mk.inj hA
         rcases HON with ⟨hon,hC⟩|⟨hon,hC⟩
         ·obtain ⟨rfl,rfl⟩:=Prod.mk.inj hC
          by_cases hAC:(co s.bl s.tab n).1=(co s.bl s.tab q).1
          ·by_cases hez:en=eq
           ·have HG:Hid (gW s q=n):=HNL2.out.found hon hoq (HLQ.out.2 ⟨hAC,hez⟩)
            have HNF:Hid _:=HNK.out (by rw [HG.out];omega);have HSH:Hid _:=HSG.out p q n HNF.out HG.out;have hab:=mV hAC.symm;clear HNK HKN HLQ HNL2 hoq hon hA hC hAC HG;generalize (co s.bl s.tab n).1=C at *;generalize (co s.bl s.tab q).1=A at *;refine zh (S:=fun w'=>w'.cell? ⟨mw,0,none⟩=some (.pointer (some ⟨mt,0,none⟩))/\w'.cell? ⟨mt,1,none⟩=some (.slice (some ⟨ig',0,none⟩) tl ic)/\w'.cell? ⟨ig',n*6+3,none⟩=some (.bool en)/\w'.cell? ⟨ig',q*6+3,none⟩=some (.bool eq)/\w'.cell? ⟨fb,1,none⟩=some (.int .i64 (q:Int))) (by kernel_rfl) (by exact ⟨(HC.out _ HB4.out.drew).1,(HT.out _ HB4.out.drew).1,(HT.out _ HB4.out.drew).2.1,(HT.out _ HB4.out.drew).2.2,HBX.out _ HB04.out.drew⟩) (fun hHeld=>?_);refine aW [(0,iZ 0),(1,.bool false),(2,.bool false),(3,iZ 0),(4,.bool false),(5,.bool false),(6,.bool false),(7,.string A),(8,.string C)] hHeld ?_;refine tk 9 (.bool false) rfl hHeld ?_ (hy:=Or.inl ⟨by rfl,by intro w hSw;(try dsimp only at hSw);simp only [ai];go_simp;(try simp [hab])⟩);simp only [ai,bj,Act.put];refine aW [(10,.bool false),(11,.bool false),(12,pZ mw 0),(13,pZ mw 0),(14,pZ mw 0),(15,pZ mt 0),(16,pZ mt 0),(17,pZ mt 1),(18,.slice (some ⟨ig',0,none⟩) tl ic),(19,iZ n),(20,pZ ig' (n*6)),(21,pZ ig' (n*6+3)),(22,.bool en),(23,pZ mw 0),(24,pZ mw 0),(25,pZ mw 0),(26,pZ mt 0),(27,pZ mt 0),(28,pZ mt 1),(29,.slice (some ⟨ig',0,none⟩) tl ic),(30,pZ fb 1),(31,iZ q),(32,pZ ig' (q*6)),(33,pZ ig' (q*6+3)),(34,.bool eq)] hHeld ?_;refine tk 35 (.bool false) rfl hHeld ?_ (hy:=Or.inl ⟨by rfl,by intro w hSw;(try dsimp only at hSw);simp only [ai];go_simp;(try simp [hez])⟩);simp only [ai,bj,Act.put];refine tk 36 (.bool false) rfl hHeld ?_;simp only [ai,bj,Act.put];refine zk (by kernel_rfl) ?_ _;have HB5:=kH HB4.out.drew;have HB05:=kH HB04.out.drew;obtain ⟨w5,HW5⟩:∃w5,Hid (w4.drew=w5):=⟨_,rfl⟩;rw [HW5.out] at HB5 HB05 ⊢;clear hHeld HW5 HB4 HB04
            go_upto_region 16 with fail
            refine zh (S:=fun w'=>w'.cell? ⟨mw,1,none⟩=some (.slice (some ⟨g,0,none⟩) nl lc)/\w'.cell? ⟨g,i*6,none⟩=some (.int .i64 (yk:Int))) (by kernel_rfl) (by exact ⟨HCN.out _ HB5.out.drew,(HC.out _ HB5.out.drew).2.2.1⟩) (fun hHeld=>?_);refine aW [(0,pZ mw 0),(1,pZ mw 0),(2,pZ mw 0),(3,pZ mw 1),(4,.slice (some ⟨g,0,none⟩) nl lc),(5,iZ i),(6,pZ g (i*6)),(7,pZ g (i*6)),(8,iZ yk),(9,pZ fb 0),(11,iZ n)] hHeld ?_;refine aC 10 rfl (fun K' hK=>?_);simp only [ai];have c10:=HBY.out _ HB05.out.drew;go_simp;go_wp2_with fail
            clear c10;refine hK.out _ _ (by exact ⟨HCN.out _ HB5.out.drew,(HC.out _ HB5.out.drew).2.2.1⟩) (fun hHeld=>?_);clear hK K';refine aC 12 rfl (fun K' hK=>?_);simp only [ai];go_simp;refine jk (HSH.out _ HB5.out.drew) ?_;rintro e w6 ⟨⟨c,rfl⟩,hp6,hk6⟩;have HP6:Hid _:=hp6;have HK6:Hid _:=hk6;clear hp6 hk6;go_wp2_with fail
            refine hK.out _ _ (by exact HK6.out) (fun hHeld=>?_);clear hK K';refine zk (by kernel_rfl) ?_ _;clear hHeld;go_wp2_with fail
            go_ret;exact .inr ⟨_,HNF.out,rfl,HP6.out⟩
           ·have HN2:Hid (m8 s q (n+1)):=HNL2.out.next (fun h=>hez (HLQ.out.1 h.2.2).2)
            have hab:=mV hAC.symm;clear HNK HKN HLQ HNL2 hoq hon hA hC hAC;generalize (co s.bl s.tab n).1=C at *;generalize (co s.bl s.tab q).1=A at *;refine zh (S:=fun w'=>w'.cell? ⟨mw,0,none⟩=some (.pointer (some ⟨mt,0,none⟩))/\w'.cell? ⟨mt,1,none⟩=some (.slice (some ⟨ig',0,none⟩) tl ic)/\w'.cell? ⟨ig',n*6+3,none⟩=some (.bool en)/\w'.cell? ⟨ig',q*6+3,none⟩=some (.bool eq)/\w'.cell? ⟨fb,1,none⟩=some (.int .i64 (q:Int))) (by kernel_rfl) (by exact ⟨(HC.out _ HB4.out.drew).1,(HT.out _ HB4.out.drew).1,(HT.out _ HB4.out.drew).2.1,(HT.out _ HB4.out.drew).2.2,HBX.out _ HB04.out.drew⟩) (fun hHeld=>?_);refine aW [(0,iZ 0),(1,.bool false),(2,.bool false),(3,iZ 0),(4,.bool false),(5,.bool false),(6,.bool false),(7,.string A),(8,.string C)] hHeld ?_;refine tk 9 (.bool false) rfl hHeld ?_ (hy:=Or.inl ⟨by rfl,by intro w hSw;(try dsimp only at hSw);simp only [ai];go_simp;(try simp [hab])⟩);simp only [ai,bj,Act.put];refine aW [(10,.bool false),(11,.bool false),(12,pZ mw 0),(13,pZ mw 0),(14,pZ mw 0),(15,pZ mt 0),(16,pZ mt 0),(17,pZ mt 1),(18,.slice (some ⟨ig',0,none⟩) tl ic),(19,iZ n),(20,pZ ig' (n*6)),(21,pZ ig' (n*6+3)),(22,.bool en),(23,pZ mw 0),(24,pZ mw 0),(25,pZ mw 0),(26,pZ mt 0),(27,pZ mt 0),(28,pZ mt 1),(29,.slice (some ⟨ig',0,none⟩) tl ic),(30,pZ fb 1),(31,iZ q),(32,pZ ig' (q*6)),(33,pZ ig' (q*6+3)),(34,.bool eq)] hHeld ?_;refine tk 35 (.bool true) rfl hHeld ?_ (hy:=Or.inl ⟨by rfl,by intro w hSw;(try dsimp only at hSw);simp only [ai];go_simp;(try simp [hez])⟩);simp only [ai,bj,Act.put];refine tk 36 (.bool true) rfl hHeld ?_;simp only [ai,bj,Act.put];refine zk (by kernel_rfl) ?_ _;clear hHeld;go_wp2_with fail
            exact ⟨⟨n+1,by omega,by simp,HN2.out,HB4.out.drew,HB04.out.drew⟩,by simp [intOf];omega⟩
          ·have HN2:Hid (m8 s q (n+1)):=HNL2.out.next (fun h=>hAC (HLQ.out.1 h.2.2).1)
           have hab:=sj (fun e=>hAC e.symm);clear HNK HKN HLQ HNL2 hoq hon hA hC hAC;generalize (co s.bl s.tab n).1=C at *;generalize (co s.bl s.tab q).1=A at *;refine zh (S:=fun w'=>w'.cell? ⟨mw,0,none⟩=some (.pointer (some ⟨mt,0,none⟩))/\w'.cell? ⟨mt,1,none⟩=some (.slice (some ⟨ig',0,none⟩) tl ic)/\w'.cell? ⟨ig',n*6+3,none⟩=some (.bool en)/\w'.cell? ⟨ig',q*6+3,none⟩=some (.bool eq)/\w'.cell? ⟨fb,1,none⟩=some (.int .i64 (q:Int))) (by kernel_rfl) (by exact ⟨(HC.out _ HB4.out.drew).1,(HT.out _ HB4.out.drew).1,(HT.out _ HB4.out.drew).2.1,(HT.out _ HB4.out.drew).2.2,HBX.out _ HB04.out.drew⟩) (fun hHeld=>?_);refine aW [(0,iZ 0),(1,.bool false),(2,.bool false),(3,iZ 0),(4,.bool false),(5,.bool false),(6,.bool false),(7,.string A),(8,.string C)] hHeld ?_;refine tk 9 (.bool true) rfl hHeld ?_ (hy:=Or.inl ⟨by rfl,by intro w hSw;(try dsimp only at hSw);simp only [ai];go_simp;(try simp [hab])⟩);simp only [ai,bj,Act.put];refine aW [(10,.bool true),(11,.bool true),(12,undef),(13,undef),(14,undef),(15,undef),(16,undef),(17,undef),(18,undef),(19,undef),(20,undef),(21,undef),(22,undef),(23,undef),(24,undef),(25,undef),(26,undef),(27,undef),(28,undef),(29,undef),(30,undef),(31,undef),(32,undef),(33,undef),(34,undef),(35,undef),(36,.bool true)] hHeld ?_;refine zk (by kernel_rfl) ?_ _;clear hHeld;go_wp2_with fail
           exact ⟨⟨n+1,by omega,by simp,HN2.out,HB4.out.drew,HB04.out.drew⟩,by simp [intOf];omega⟩
         ·obtain ⟨rfl,rfl⟩:=Prod.mk.inj hC
          have HN2:Hid (m8 s q (n+1)):=HNL2.out.next (fun h=>by rw [hon] at h;cases h.1);clear HNK HKN HLQ HNL2 hoq hon hA hC;generalize (co s.bl s.tab q).1=A at *;refine zh (S:=fun w'=>w'.cell? ⟨mw,0,none⟩=some (.pointer (some ⟨mt,0,none⟩))/\w'.cell? ⟨mt,1,none⟩=some (.slice (some ⟨ig',0,none⟩) tl ic)/\w'.cell? ⟨ig',n*6+3,none⟩=some (.bool en)/\w'.cell? ⟨ig',q*6+3,none⟩=some (.bool eq)/\w'.cell? ⟨fb,1,none⟩=some (.int .i64 (q:Int))) (by kernel_rfl) (by exact ⟨(HC.out _ HB4.out.drew).1,(HT.out _ HB4.out.drew).1,(HT.out _ HB4.out.drew).2.1,(HT.out _ HB4.out.drew).2.2,HBX.out _ HB04.out.drew⟩) (fun hHeld=>?_);refine aW [(0,iZ 0),(1,.bool false),(2,.bool false),(3,iZ 11),(4,.bool true),(5,.bool true),(6,.bool true),(7,undef),(8,undef),(9,undef),(10,.bool true),(11,.bool true),(12,undef),(13,undef),(14,undef),(15,undef),(16,undef),(17,undef),(18,undef),(19,undef),(20,undef),(21,undef),(22,undef),(23,undef),(24,undef),(25,undef),(26,undef),(27,undef),(28,undef),(29,undef),(30,undef),(31,undef),(32,undef),(33,undef),(34,undef),(35,undef),(36,.bool true)] hHeld ?_;refine zk (by kernel_rfl) ?_ _;clear hHeld;go_wp2_with fail
          exact ⟨⟨n+1,by omega,by simp,HN2.out,HB4.out.drew,HB04.out.drew⟩,by simp [intOf];omega⟩
        ·obtain ⟨rfl,rfl⟩:=Prod.mk.inj hA
         have HN2:Hid (m8 s q (n+1)):=HNL2.out.next (fun h=>by rw [hoq] at h;cases h.2.1);clear HNK HKN HLQ HNL2 hoq HON hA;refine zh (S:=fun w'=>w'.cell? ⟨mw,0,none⟩=some (.pointer (some ⟨mt,0,none⟩))/\w'.cell? ⟨mt,1,none⟩=some (.slice (some ⟨ig',0,none⟩) tl ic)/\w'.cell? ⟨ig',n*6+3,none⟩=some (.bool en)/\w'.cell? ⟨ig',q*6+3,none⟩=some (.bool eq)/\w'.cell? ⟨fb,1,none⟩=some (.int .i64 (q:Int))) (by kernel_rfl) (by exact ⟨(HC.out _ HB4.out.drew).1,(HT.out _ HB4.out.drew).1,(HT.out _ HB4.out.drew).2.1,(HT.out _ HB4.out.drew).2.2,HBX.out _ HB04.out.drew⟩) (fun hHeld=>?_);refine aW [(0,iZ 11),(1,.bool true),(2,.bool true),(3,undef),(4,undef),(5,.bool true),(6,.bool true),(7,undef),(8,undef),(9,undef),(10,.bool true),(11,.bool true),(12,undef),(13,undef),(14,undef),(15,undef),(16,undef),(17,undef),(18,undef),(19,undef),(20,undef),(21,undef),(22,undef),(23,undef),(24,undef),(25,undef),(26,undef),(27,undef),(28,undef),(29,undef),(30,undef),(31,undef),(32,undef),(33,undef),(34,undef),(35,undef),(36,.bool true)] hHeld ?_;refine zk (by kernel_rfl) ?_ _;clear hHeld;go_wp2_with fail
         exact ⟨⟨n+1,by omega,by simp,HN2.out,HB4.out.drew,HB04.out.drew⟩,by simp [intOf];omega⟩
      ·obtain rfl:n=q:=by omega
       have HKN2:Hid _:=HKN.out HNL2.out.self;clear HKN HNK;go_wp2_with fail
       exact ⟨⟨k+1,by omega,by simp,HKN2.out,HBq.out⟩,by simp [intOf];omega⟩
    ·obtain rfl:k=fs.length:=by omega
     have HTN2:Hid _:=HTN.out (by have h:=HK.out.1;rw [jS] at h;exact h);clear HK HTN;go_wp2_with fail
     exact ⟨⟨i+1,by omega,by simp,HTN2.out,HBk.out⟩,by simp [intOf];omega⟩
  ·obtain rfl:i=L.length:=by omega
   have HE:Hid (eY s (bh L)=none):=AX (by have h:=HI.out.1;rw [jS] at h;exact h);clear HI;go_wp2_with fail
   go_ret;exact .inl ⟨HE.out,rfl,HBr.out⟩
end
end
section
set_option maxRecDepth 100000
open Go.RowKit Go.Maps

theorem iu {D:Nat} {tr:List (Option ah)} {pt:List ab} (h:tr.length=pt.length):bh (bP D 0 tr pt)=aj tr:=by
 unfold aj bh;rw [<-wE (D:=D) _ tr pt rfl h,qr,qr,qC]
 congr 1
 refine jQ fun y hy=>?_;obtain ⟨j,x,t,h1,_,rfl⟩:=gx tr pt 0 y hy;show _=cU tr (0+j);unfold cU;rw [j6,dh,h1];rfl
theorem so {α:Type} (L:List α) (p:α->Prop) [DecidablePred p]:∀n i,L.length-i=n->(∀m g,i<=m->L[m]? = some g->¬p g)∨∃j f,i<=j/\L[j]? = some f/\p f/\∀m g,i<=m->m<j->L[m]? = some g->¬p g
 | 0,i,h=>.inl fun m g hm hg=>by have:=(jb.1 hg).1;omega
 | n+1,i,h=>by
  have hi:i<L.length:=(by omega);by_cases hp:p L[i]
  ·exact .inr ⟨i,L[i],jd _,jc hi,hp,fun m g h1 h2=>by omega⟩
  ·rcases so L p n (i+1) (by omega) with h1|⟨j,f,h1,h2,h3,h4⟩
   ·refine .inl fun m g hm hg=>?_
    rcases qO i m with h5|h5
    ·exact h1 m g h5 hg
    ·obtain rfl:m=i:=by omega
     rw [jc hi] at hg;cases hg
     exact hp
   ·refine .inr ⟨j,f,by omega,h2,h3,fun m g hm hj hg=>?_⟩
    rcases qO i m with h5|h5
    ·exact h4 m g h5 hj hg
    ·obtain rfl:m=i:=by omega
     rw [jc hi] at hg;cases hg
     exact hp
theorem rh {G:Nat->Nat} {st:aA×List (Option ah)} {L:List (Nat×ByteArray×Nat)} {i:Nat}:∀n,(∀m g,i<=m->m<i+n->L[m]? = some g->G g.2.2=g.2.2)->ip G st (L.take (i+n))=ip G st (L.take i)/\cY G (L.take (i+n))=cY G (L.take i)
 | 0,_=>⟨rfl,rfl⟩
 | n+1,h=>by
  obtain ⟨e1,e2⟩:=rh n fun m g h1 h2=>h m g h1 (by omega)
  cases hg:L[i+n]? with
  | none =>
   have hl:=List.getElem?_eq_none_iff.1 hg;rw [jr hl] at e1 e2;rw [jr (by omega)];exact ⟨e1,e2⟩
  | some g =>
   have hs:=h (i+n) g (by omega) (by omega) hg;show ip G st (L.take (i+n+1))=_/\cY G (L.take (i+n+1))=_;rw [kq hg,rc hs,e1,lY hg,zj hs,e2];exact ⟨rfl,rfl⟩
section
variable {a : Nat → Addr} {w0 W W' : World} {N d dp tb bb sp sb cap mb m1 m2 mw mt md j : Nat} {s sD sP s' : aA} {tr trD trP tr' : List (Option ah)} {pt pt' : List ab} {i : Nat}
structure IQ (N D:Nat) (s:aA) (tr:List (Option ah)) (pt:List ab) (i:Nat) (sD:aA) (trD:List (Option ah)):Prop where
 I:cL N D sD trD pt
 bl:sD.bl=s.bl
 sub:eu s sD
 fl:aj trD=mixed (gW s) (aj tr) i
 tl:sD.tab.length=s.tab.length
theorem zf {q:Nat} {y z:ak} (hb:sD.bl=s.bl) (T:eu s sD) (hy:af sD.tab q=some y) (hz:af sD.tab (gW s q)=some z) (h:dE s.bl s.tab q=true):gt sD.bl y z=true:=by
 obtain ⟨_,_,g3,_⟩:=gN h;rw [<-g8 hb T hz,<-g8 hb T hy] at g3;unfold co at g3;simp only [hz,hy,Prod.mk.injEq] at g3;exact (fX _ _ _).2 ⟨g3.1.symm,g3.2.symm⟩
theorem zg (I:cL N (d+1) s tr pt) (few:pt.length<=j/\∀t∈pt,fM d t) (hj:j<=900) (hd:d<=900):∀i,i<=(aj tr).length->IQ N (d+1) s tr pt i (ip (gW s) (s,tr) ((aj tr).take i)).1 (ip (gW s) (s,tr) ((aj tr).take i)).2
 | 0,_=>⟨I,rfl,eu.refl _,(r7 _ _).symm,rfl⟩
 | i+1,hi=>by
  have R:=zg I few hj hd i (by omega);obtain ⟨f,hf⟩:∃f,(aj tr)[i]? = some f:=⟨_,jc (by omega)⟩;rw [kq hf];generalize ip (gW s) (s,tr) ((aj tr).take i)=st at R ⊢;obtain ⟨sD,trD⟩:=st;obtain ⟨k,p,q⟩:=f;by_cases hne:gW s q=q
  ·rw [rc hne]
   exact ⟨R.I,R.bl,R.sub,by rw [r8 hf hne];exact R.fl,R.tl⟩
  ·have O:=R.I.ok few hj hd
   obtain ⟨x,hx,hfp,_,y,hy⟩:=R.I.file O (by rw [R.fl];exact v8 hf);obtain ⟨f',hf',e'⟩:=I.repW.rep _ (jg hf) hne;obtain ⟨k',p',q'⟩:=f'
   simp only at e'
   subst e';obtain ⟨_,_,_,_,z,hz⟩:=R.I.file O (by rw [R.fl];exact lX hf' lJ i)
   simp only at hx hy hz
   rw [re hne hy hz hx];have hex:=((fX _ _ _).1 (zf R.bl R.sub hy hz (uP hne))).2;exact ⟨R.I.share hx hfp hy hz hne hex,by rw [mY];exact R.bl,R.sub.trans (eu.share hy hz hne),by rw [rZ hx,R.fl,r9 (o9 (I.ok few hj hd)) hf],by rw [ew,jI];show (sD.tab.set _ _).length=_;rw [jI];exact R.tl⟩
theorem Ff (I:cL N (d+1) s tr pt) (few:pt.length<=j/\∀t∈pt,fM d t) (hj:j<=900) (hd:d<=900) (R:IQ N (d+1) s tr pt i sD trD) :
  (eY sD (aj trD)=none/\∀m g,i<=m->(aj tr)[m]? = some g->gW s g.2.2=g.2.2)∨∃m f,i<=m/\(aj tr)[m]? = some f/\¬gW s f.2.2=f.2.2/\(∀m' g,i<=m'->m'<m->(aj tr)[m']? = some g->gW s g.2.2=g.2.2)/\eY sD (aj trD)=some f/\gW sD f.2.2=gW s f.2.2:=by
 have O:=R.I.ok few hj hd
 have there:∀f∈aj tr,∃z,af sD.tab (gW s f.2.2)=some z:=fun f hf=>by
  by_cases hne:gW s f.2.2=f.2.2
  ·obtain ⟨_,_,_,_,z,hz⟩:=R.I.file (k:=f.1) (p:=f.2.1) (q:=f.2.2) O (by rw [R.fl];exact lX hf hne i)
   exact ⟨z,by rw [hne];exact hz⟩
  ·obtain ⟨⟨k',p',q'⟩,hf',e'⟩:=I.repW.rep f hf hne
   simp only at e'
   subst e';obtain ⟨_,_,_,_,z,hz⟩:=R.I.file O (by rw [R.fl];exact lX hf' lJ i);exact ⟨z,hz⟩
 have hg:∀f∈aj tr,gW sD (gW s f.2.2)=gW s f.2.2:=fun f hf=>by
  obtain ⟨z,hz⟩:=there f hf;rw [y9 R.bl R.sub hz (by rw [lJ];exact ⟨z,hz⟩),lJ]
 have hs:∀m f,i<=m->(aj tr)[m]? = some f->gW sD f.2.2=gW s f.2.2:=fun m f hm hf=>by
  have hmx:f∈mixed (gW s) (aj tr) i:=by
   unfold mixed;refine List.mem_append_right _ (jg (i:=m-i) ?_);rw [ym,show i+(m-i)=m by omega];exact hf
  obtain ⟨_,_,_,_,y,hy⟩:=R.I.file (k:=f.1) (p:=f.2.1) (q:=f.2.2) O (by rw [R.fl];exact hmx);exact y9 R.bl R.sub hy (there f (jg hf))
 rw [R.fl]
 rcases so (aj tr) (fun f=>¬gW s f.2.2=f.2.2) _ i rfl with h|⟨m,f,h1,h2,h3,h4⟩
 ·have h':∀m g,i<=m->(aj tr)[m]? = some g->gW s g.2.2=g.2.2:=fun m g h1 h2=>Decidable.not_not.1 (h m g h1 h2)
  exact .inl ⟨AV hg hs h',h'⟩
 ·have h':∀m' g,i<=m'->m'<m->(aj tr)[m']? = some g->gW s g.2.2=g.2.2:=fun m' g k1 k2 k3=>Decidable.not_not.1 (h4 m' g k1 k2 k3)
  exact .inr ⟨m,f,h1,h2,h3,h',xM hg hs h1 h2 h3 h',hs m f h1 h2⟩
theorem B2.docTo {s2:aA} {tr2:List (Option ah)} {pt2:List ab} (S:B2 w0 N d dp tb bb sp sb cap mb m1 m2 mw mt md j s tr pt s' tr' pt' W) (h:bF w0.heap.size W W') (M:∃la lc us vs,bi W' w0.heap.size d mw mt la lc (bP (d+1) 0 tr2 pt2) us vs tr2.length) (Mt:∃la lc ia ic vs,ay W' w0.heap.size mt md la lc ia ic s2.bl s2.tab vs):B2 w0 N d dp tb bb sp sb cap mb m1 m2 mw mt md j s tr pt s2 tr2 pt2 W':=by
 obtain ⟨⟨n1,fb,h1,D⟩,⟨n,h2,T⟩,_,_,I,f,b,g,t⟩:=S;exact ⟨⟨n1,fb,h1,D.dbut h⟩,⟨n,h2,T.dbut h⟩,M,Mt,I,f,h.below (jd _) b.size b,g,t⟩
theorem Fg (S:B2 w0 N d dp tb bb sp sb cap mb m1 m2 mw mt md j sP trP pt sD trD pt W) (I:cL N (d+1) sD trD pt) (hbl:sD.bl=sP.bl) (htl:sD.tab.length<=40*j) (hj:j<=900) (hd:d<=900) :
  Cl 51 #[.pointer (some ⟨mw,0,none⟩)] W fun e w'=>(eY sD (aj trD)=none/\e = .returned (.bool false)/\Bl W w')∨∃f,eY sD (aj trD)=some f/\e = .returned (.bool true)/\bF w0.heap.size W w'/\B2 w0 N d dp tb bb sp sb cap mb m1 m2 mw mt md j sP trP pt (m7 (gW sD) (sD,trD) f).1 (m7 (gW sD) (sD,trD) f).2 pt w':=by
 obtain ⟨la,lc,us,vs,M⟩:=S.M;obtain ⟨la2,lc2,ia,ic,vs2,Mt⟩:=S.Mt;obtain ⟨n,hn,T⟩:=S.T;have O:=I.ok S.few hj hd
 have hR:(cG (d+1) trD pt).length<=40000:=by
  have h1:=oW (D:=d+1) (M:=40) (tr:=trD) (pt:=pt) fun t ht=>(S.few.2 t ht).files;have h2:=S.few.1;have h3:40*pt.length<=40*900:=Nat.mul_le_mul_left _ (by omega);omega
 have hTO:y6 sD.bl sD.tab:=⟨by omega,by rw [hbl];exact T.disk.bl16,fun q y hy=>by
  obtain ⟨_,_,h3,h4,h5⟩:=I.rf.sp.own q y hy;refine ⟨fun b hb=>by rw [I.rf.sp.lbl];exact I.rf.sp.lt hy b hb,by rw [h5];unfold aw;omega,by rw [h5];unfold aw;omega,h3,?_⟩
  have:=I.lk hy
  omega⟩
 have hl:(bP (d+1) 0 trD pt).length<=1000:=by
  have h1:=mX (D:=d+1) trD pt 0;have h2:=I.len;have h3:=S.few.1;omega
 have hfs:∀y∈bP (d+1) 0 trD pt,y.fs.length<=100000:=fun y hy=>by
  obtain ⟨i,x,t,h1,h2,h3⟩:=gx _ _ _ _ hy;have e:=I.lens i x t h1 h2;have h4:=(S.few.2 t (jg h2)).files;rw [h3];show x.fs.length<=100000;omega
 have hin:∀y∈bP (d+1) 0 trD pt,∀f∈y.fs,∃z,af sD.tab f.2=some z:=fun y hy f hf=>by
  obtain ⟨i,x,t,h1,h2,h3⟩:=gx _ _ _ _ hy;rw [h3] at hf;obtain ⟨_,_,_,_,h⟩:=I.file O (kV.2 ⟨x,by rw [dh,h1];rfl,hf⟩);exact h
 have hB:=fun (k:Int) (p:ByteArray)=>wD I (by omega) k p;refine (G4 M Mt hTO hl hfs hin (fun f w'=>bF w0.heap.size W w'/\B2 w0 N d dp tb bb sp sb cap mb m1 m2 mw mt md j sP trP pt (m7 (gW sD) (sD,trD) f).1 (m7 (gW sD) (sD,trD) f).2 pt w') fun f hf W1 h1=>?_).mono fun e w' h=>?_
 ·rw [iu I.len] at hf
  have hne:¬gW sD f.2.2=f.2.2:=(by have:=List.find?_some hf;simpa using this);have hm:=List.mem_of_find?_eq_some hf;obtain ⟨k,p,q⟩:=f;obtain ⟨x,hx,hfp,hi,y,hy⟩:=I.file O hm;obtain ⟨⟨k',p',q'⟩,hf',e'⟩:=I.repW.rep _ hm hne
  simp only at e' hne
  subst e';obtain ⟨_,_,_,_,z,hz⟩:=I.file O hf';have hp:p.size<=1000000:=by have:=(O k x hx).2.2.2.2.2 _ (fu x.fs hfp);simp only at this;omega
  have hok:=uP hne;have hcy:=sl hok hy;have hcz:=sl (gN hok).2.1 hz;have hlk:=zf rfl (eu.refl _) hy hz hok;have hB1:=hB (k:Int) p;rw [hi] at hB1;obtain ⟨t,ht,_⟩:=I.tree k x hx;obtain ⟨g,f1,f2,_,f4⟩:=nY (D:=d+1) hx ht I.len
  have htab:(bz (cW sD (gW sD q) z) q y).tab=(sD.tab.set (gW sD q) (some { z with links:=z.links+1 })).set q (if y.links-1=0 then none else some { y with links:=y.links-1 }):=by
   rw [ew];have h1:=(I.rf.sp.own q y hy).2.2.1;show (sD.tab.set (gW sD q) _).set q _=_
   congr 1
   by_cases h:y.links=1
   ·rw [zj h,zj (by omega)]
   ·rw [zi h,zi (by omega)]
  have S1:=S.below h1;refine (pU (M.below h1) (Mt.below h1) hTO (by omega) hfs (k:Int) p hp q (gW sD q) y z hB1 hy hz (fun h=>hne h.symm) g _ f1 f2 hcy hcz hlk w0.heap.size (jd _) _ htab).mono ?_;rintro e2 w2 ⟨he2,M',⟨vs',Mt'⟩,hD⟩;have hf4:=f4 (setF x.fs p (gW sD q));have M2:=M'
  simp only at M2
  rw [hf4] at M2;refine ⟨⟨0,he2⟩,⟨(bF.of_below h1).trans hD,?_⟩,?_,fun b i' y' hla hy'=>?_⟩
  ·rw [re hne hy hz hx]
   refine S1.docTo hD ⟨la,lc,us,vs,?_⟩ ⟨la2,lc2,ia,ic,vs',?_⟩
   ·rw [jI]
    exact M2
   ·rw [mY]
    exact Mt'
  ·have:=M'.cells.2.1
   rw [jI] at this;exact this
  ·obtain ⟨y2,hy2,hk2⟩:∃y2,((bP (d+1) 0 trD pt).set g { (⟨k,dM (d+1) t,x.fs⟩:bA) with fs:=setF x.fs p (gW sD q) })[i']? = some y2/\y2.k=y'.k:=by
    have hlt:=(jb.1 hy').1;rw [List.getElem?_set];by_cases e:g=i'
    ·subst e
     rw [f2] at hy';cases hy'
     rw [zj rfl,zj hlt];exact ⟨_,rfl,rfl⟩
    ·rw [zi e]
     exact ⟨y',hy',rfl⟩
   obtain ⟨g',_,_,_,_,e1,_,_,k0,_⟩:=M'.at hy2;rw [hla] at e1;cases e1
   rw [k0,hk2]
 ·rw [iu I.len] at h
  rcases h with h|⟨f,h1,h2,h3,h4⟩
  ·exact .inl h
  ·exact .inr ⟨f,h1,h2,h3,h4⟩
end
end
section
set_option maxRecDepth 100000
open Go.RowKit Go.Maps

def JR (tab:List (Option ak)) (fs:List (ByteArray×Nat)):Nat:=(fs.map fun f=>AA tab f.2).sum
def KB (tab:List (Option ak)) (L:List bA):Nat:=(L.map fun y=>JR tab y.fs).sum
section
variable {w : World} {B B' D mw mt md next lc lc2 ic : Nat} {la la2 ia : Option Addr} {L : List bA} {us vs vs2 : List Value} {bl : List (List UInt8)} {tab : List (Option ak)}
end
end
end Go.Proofs.YthofhjnfkholoaaGreatDoor
