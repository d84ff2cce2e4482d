/-
  DkR ImC DkA DkB, joined.
  Conditions: those that each states.
-/
import Derived.Test.YthofhjnfkholoaaGreatDoorQ01
import Derived.Deep.RegionHeld3
import Derived.Laws.IdiomStrings
namespace Go.Proofs.YthofhjnfkholoaaGreatDoor
set_option maxHeartbeats 2000000
section
set_option maxRecDepth 100000
open Go.RowKit Go.Shelf

attribute [local go_sem] Oper.semAt_some

abbrev Wr:={ x:Nat×List UInt8 // x.2.length=16 }
theorem DC (x:Wr):(wc x.1).length=17:=by rw [mx,x.2]
def my (ws:List Wr) (j:Nat):Nat×Wr:=(ws.length-1-j,(ws[ws.length-1-j]?).getD ⟨(0,List.replicate 16 0),rfl⟩)
def eS (ws:List Wr) (k:Nat):List (Nat×Wr):=(List.range k).map (my ws)
theorem zq (ws:List Wr) (k:Nat):eS ws (k+1)=eS ws k ++ [my ws k]:=by simp [eS,qJ]
theorem om (ws:List Wr) (k:Nat):(eS ws k).length=k:=by simp [eS]

theorem uT:(Tryz.prog.info? 135).map (·.size)=some 17:=by kernel_rfl
theorem mz:(Tryz.prog.info? 127).map (·.size)=some 16:=by kernel_rfl

theorem DE (F:Fence) (n:Nat) (h39:F.fn 196) (hro:F.round=none) (hn:1<=n) (l Bs n₀:Nat) (va:Option Addr) (vc:Nat) (ws:List Wr) (hreach:ws.length<=100000) (J Jx:List (Nat×Wr)->World->Prop)
  (hY:∀pre x W,J pre W->pre.length<ws.length->YieldAt F (n-1) Tryz.prog l #[.int .i64 (x.1:Int),.agg (wc x.2.1).toArray] W fun e W' =>
   (e = .returned (.bool true)/\J (pre ++ [x]) W'/\Below n₀ W W')∨(e = .returned (.bool false)/\Jx (pre ++ [x]) W'))
  (W:World) (hBs:W.cell? ⟨Bs,0,none⟩=some (.slice va ws.length vc)) (hBn:Bs<n₀) (hc:∀i (x:Wr),ws[i]? = some x->∃g,va=some ⟨g,0,none⟩/\g<n₀/\W.rangeAt g (i*17) (wc x.1)) (h0:J [] W) :
  CallsIn F n Tryz.prog 196 #[.func (.yield l) #[] #[],.pointer (some ⟨Bs,0,none⟩)] W fun e W'=>(∃v,e = .returned v) /\
   ((∃ys,ys=eS ws ws.length/\J ys W')∨(∃pre,(∃k,k<=ws.length/\pre=eS ws k)/\Jx pre W')):=by
 refine callsIn_of_wp Tryz.func196 rfl h39 ?_ hro;simp only [Tryz.ntmps196,qv,jz,qF,Nat.reduceAdd,Nat.reduceSub,qU,qV,yr,yf,qq,jX]
 gi_wp2
 gi_loopw [3] (fun i wr=>∃j:Nat,j<=ws.length/\i = .int .i64 ((j:Int)-1)/\J (eS ws (ws.length-j)) wr/\Below n₀ W wr)
  (fun i _=>(intOf i+1).toNat)
 case atStart=>exact ⟨ws.length,jd _,rfl,by rw [Nat.sub_self];exact h0,je _ _⟩
 case round =>
  obtain ⟨j,hj,rfl,hJs,hnx⟩:=hrel;have hBw:wr.cell? ⟨Bs,0,none⟩=some (.slice va ws.length vc):=(hnx.cell (p:=⟨Bs,0,none⟩) hBn).trans hBs
  cases j with
  | zero =>
   gi_wp2
   go_end0
   exact ⟨⟨_,rfl⟩,.inl ⟨_,rfl,hJs⟩⟩
  | succ m =>
   have hm:m<ws.length:=(by omega);have e1:((m+1:Nat):Int)-1=(m:Int):=(by omega);rw [e1];clear e1;have hx:ws[m]? = some ws[m]:=jc hm;obtain ⟨g,rfl,hg,hr⟩:=hc m _ hx;have hr':wr.rangeAt g (m*17) (wc ws[m].1):=fun i v hi=>by rw [hnx.cell (p:=⟨g,m*17+i,none⟩) hg];exact hr i v hi
   have hfe:Hid (my ws (ws.length-(m+1))=(m,ws[m])):=by
    show _=_;unfold my
    have:ws.length-1-(ws.length-(m+1))=m:=by omega
    rw [this,hx];rfl
   obtain ⟨x,HX⟩:∃x,Hid (x=ws[m]):=⟨_,(rfl:ws[m]=ws[m])⟩;have hr2:Hid (wr.rangeAt g (m*17) (wc x.1)):=by rw [HX.out];exact hr'
   have h17:Hid ((Tryz.prog.info? 135).map (·.size)=some (wc x.1).length):=(by show _=_;rw [DC];exact uT);obtain ⟨fn,tmps,assign,body,hy,hR⟩:=hY _ (m,x) wr hJs (by rw [om];omega);dsimp only at hy;clear hr hr' hx hc
   gi_wp2_with (refine kI (by rfl) 135 _ (by rfl) g (m*17) (by rfl) (wc x.1) _ hr2.out Tryz.underlying135 rfl h17.out ?_)
   refine hR.mono ?_
   have HN:Hid (eS ws (ws.length-m)=eS ws (ws.length-(m+1)) ++ [(m,x)]):=by
    show _=_
    have:ws.length-m=ws.length-(m+1)+1:=by omega
    rw [this,zq,hfe.out,HX.out]
   rintro e W3 (⟨rfl,hJ3,hk3⟩|⟨rfl,hJx3⟩)
   ·gi_wp2
    go_roundw
    case rel=>exact ⟨m,by omega,rfl,by rw [HN.out];exact hJ3,hnx.trans hk3⟩
    case measure=>simp [intOf]
   ·gi_wp2
    refine zv (results_none rfl _ _ _) rfl ?_;exact ⟨⟨_,rfl⟩,.inr ⟨_,⟨ws.length-m,by omega,HN.out.symm⟩,hJx3⟩⟩

theorem FE (F:Fence) (n:Nat) (h5:F.fn 176) (hro:F.round=none) (a:Option Addr) (len cap:Nat) (w:World) :
  CallsIn F n Tryz.prog 176 #[.slice a len cap] w fun e w'=>e = .returned (.func (.func 196) #[] #[.pointer (some ⟨w.heap.size,0,none⟩)])/\w'=w.alloc (.cells #[.slice a len cap] 129):=by
 refine callsIn_of_wp Tryz.func176 rfl h5 ?_ hro;simp only [Tryz.ntmps176,qv,jz,qF,Nat.reduceAdd,Nat.reduceSub,qU,qV,yr,yf,qq,jX]
 gi_wp2
 go_ret;exact ⟨rfl,rfl⟩

theorem zs (F:Fence) (n:Nat) (h39:F.fn 196) (hro:F.round=none) (hn:1<=n) (Bs n₀:Nat) (va:Option Addr) (vc:Nat) (ws:List Wr) (hreach:ws.length<=100000) (w:World) (hBs:Bs<n₀) (hn₀:n₀<=w.heap.size)
  (hc:w.cell? ⟨Bs,0,none⟩=some (.slice va ws.length vc)) (hr:∀i (x:Wr),ws[i]? = some x->∃g,va=some ⟨g,0,none⟩/\g<n₀/\w.rangeAt g (i*17) (wc x.1)) :
  SeqStopsK F n Tryz.prog 196 #[.pointer (some ⟨Bs,0,none⟩)] (fun x:Nat×Wr=>#[Value.int .i64 (x.1:Int),.agg (wc x.2.1).toArray]) (Below n₀) (fun ys=>ys=eS ws ws.length)
   (fun pre=>∃k,k<=ws.length/\pre=eS ws k) ws.length w:=fun l J Jx W hW _ _ hY h0=>by
 have hb:Below n₀ w W:=hW.mono hn₀
 exact DE F n h39 hro hn l Bs n₀ va vc ws hreach J Jx hY W ((hb.cell (p:=⟨Bs,0,none⟩) hBs).trans hc) hBs (fun i x hx=>by
  obtain ⟨g,e,hg,h⟩:=hr i x hx;exact ⟨g,e,hg,fun j v hj=>by rw [hb.cell (p:=⟨g,i*17+j,none⟩) hg];exact h j v hj⟩) h0
end
section
set_option maxRecDepth 100000
open Go.RowKit Go.Shelf

section
variable {P : Program} {ops : Array Oper} {Q : Exit → Act → World → Prop} {md : Region.Mode} {S : World → Prop} {r n : Nat}
theorem zx {i:Nat} {K K':Act->World->Prop} (hnd:∀(i:Nat) (o:Oper),ops[i]? = some o->∀c,o.op≠.defer c) (hlo:¬LetsOut Q) {a:Act} {w:World} (h:wpOp P ops Q i K a w) (hK:∀a w,K a w->K' a w):wpOpIn (Fence.wide.inRound r) n P ops Q i K' a w:=by
 unfold wpOp at h;unfold wpOpIn
 cases ho:ops[i]? with
 | none=>rw [ho] at h;exact hK _ _ h
 | some o =>
  rw [ho] at h
  simp only at h ⊢
  split
  ·rename_i hw
   rw [zj hw] at h
   rcases h with h|⟨_,h⟩
   ·refine ⟨fun f _=>trivial,?_⟩
    show o.uponIn (Fence.wide.inRound r) n P a K' Q ((o.semAt (some r) a.eval).run P w);rw [Oper.semAt_some r a.eval o (hnd i o ho)];unfold Oper.wp at h;generalize (execOp a.eval o).run P w=res at h ⊢
    cases res with
    | ok x w' =>
     cases x with
     | value v=>exact hK _ _ h
     | skip=>exact hK _ _ h
     | defer d=>exact hK _ _ h
     | enter f args =>
      refine ⟨fun h=>by simp [Fence.wide,Fence.inRound] at h,CallsIn.inRound r (callsIn_wide.2 (jk h ?_))⟩;intro e w'' he
      cases e with
      | returned v=>exact hK _ _ he
      | panicked c=>exact he
      | outgrown=>exact he
     | row row args =>
      refine ⟨fun h=>by simp [Fence.wide,Fence.inRound] at h,fun c cs _=>?_⟩;obtain ⟨v,w2,h1,h2⟩:=h c cs;exact ⟨v,w2,hK _ _ h1,stepsIn_wide.2 h2⟩
     | _=>exact absurd h id
    | halt x w' =>
     cases x with
     | panic v=>exact h
     | _=>exact absurd h id
   ·exact absurd h hlo
  ·rename_i hw
   rw [zi hw] at h;exact ⟨fun f _=>trivial,hK _ _ h⟩
theorem pF (hnd:∀(i:Nat) (o:Oper),ops[i]? = some o->∀c,o.op≠.defer c) (hlo:¬LetsOut Q):∀(fuel:Nat) (listed:Array Bool) (a:Act) (w:World),wpAny P md ops Q fuel listed a w->wpAnyIn (Fence.wide.inRound r) n P md ops Q fuel listed a w
 | 0,_,_,_,h=>h
 | fuel+1,_,_,_,h=>⟨h.1,fun i hi=>zx hnd hlo (h.2 i hi) (fun a w=>pF hnd hlo fuel _ a w)⟩
def xX (ops:Array Oper):Bool:=ops.all fun o=>match o.op with
 | .defer _=>false
 | _=>true
theorem uU (h:xX ops=true) (i:Nat) (o:Oper) (ho:ops[i]? = some o) (c):o.op≠.defer c:=fun e=>by
 have h1:=Array.all_eq_true'.1 h o (Array.mem_of_getElem? ho);rw [e] at h1;simp at h1
theorem pD {id:Nat} {a:Act} {w:World} (hm:P.follows .mixedOrders=true) (hnd:xX ops=true) (hlo:¬LetsOut Q) (hS:S w.drew) (h:S w.drew->wpAnyH P .any ops Q S ops.size (Array.replicate ops.size false) a w.drew):(Code.region id ops true).wpIn (Fence.wide.inRound r) n P Q a w :=
 wpIn_region_any hm (pF (uU hnd) hlo _ _ _ _ (wpAny_of_held _ _ _ _ (h hS)))
end

def fr (m j:Nat):List { x:Nat // x<m }:=(List.range j).filterMap fun x=>if h:x<m then some ⟨x,h⟩ else none
theorem pi {m j:Nat} (h:j<m):fr m (j+1)=fr m j ++ [⟨j,h⟩]:=by
 unfold fr;rw [qJ,List.filterMap_append]
 simp [h]
theorem xY {m:Nat}:∀ {j:Nat},j<=m->(fr m j).map (·.1)=List.range j
 | 0,_=>rfl
 | j+1,h=>by rw [pi (by omega),jR,xY (by omega),qJ];rfl
theorem uV {m j:Nat} (h:j<=m):(fr m j).length=j:=by
 have:=congrArg List.length (xY h)
 simpa using this
def Fl (Bs Bn:Nat) (A B:World):Prop:=B.heap[Bs]? = A.heap[Bs]? /\ B.heap[Bn]? = A.heap[Bn]?
theorem A9 (n : Nat) (hn : 1 ≤ n) (l Bs Bn g m M C : Nat) (hM : M = m * 16) (hm : m ≤ 1000) (hC : M ≤ C) (J Jx : List { x : Nat // x < m } → World → Prop) (hJd : ∀ pre W, J pre W → J pre W.drew)
    (hY : ∀ pre x W, J pre W → pre.length < m → YieldAt Fence.wide (n - 1) Tryz.prog l #[.slice (some ⟨g, x.1 * 16, none⟩) 16 16] W fun e W' =>
      (e = .returned (.bool true) ∧ J (pre ++ [x]) W' ∧ Fl Bs Bn W W') ∨ (e = .returned (.bool false) ∧ Jx (pre ++ [x]) W'))
    (W : World) (hBs : W.heap[Bs]? = some (.cells #[.slice (some ⟨g, 0, none⟩) M C] 159 (0, 0))) (hBn : W.heap[Bn]? = some (.cells #[.int .i64 16] 3 (0, 0))) (h0 : J [] W) :
    CallsIn Fence.wide n Tryz.prog 106 #[.func (.yield l) #[] #[], .pointer (some ⟨Bs, 0, none⟩), .pointer (some ⟨Bn, 0, none⟩)] W fun e W' => (∃ v, e = .returned v) ∧
      ((∃ ys, ys = fr m m ∧ J ys W') ∨ (∃ pre, (∃ k, k ≤ m ∧ pre = fr m k) ∧ Jx pre W')) := by
  have HYY:=kH hY;have HM:=kH hM;clear hY hM;have hM16 : M ≤ 16000 := by have := HM.out; omega
  have hcs0 : W.cell? ⟨Bs, 0, none⟩ = some (.slice (some ⟨g, 0, none⟩) M C) := (by rw [ze _ _ _ _ _ _ hBs]; rfl);refine callsIn_of_wp Tryz.func106 rfl trivial ?_ rfl;simp only [Tryz.ntmps106, qv, jz, qF, Nat.reduceAdd, Nat.reduceSub, qU, qV, yr, yf, qq, jX]
  gi_wp2
  gi_loopw [4] (fun i wr => ∃ j p : Nat, p = j * 16 ∧ j ≤ m ∧ i = .int .i64 (p : Int) ∧ J (fr m j) wr ∧ Fl Bs Bn W wr)
    (fun i _ => (M - (intOf i).toNat))
  case atStart => exact ⟨0, 0, rfl, jq _, rfl, h0, rfl, rfl⟩
  case round =>
    obtain ⟨j, p, hp, hj, rfl, hJs, hk⟩ := hrel;have HK:=kH hk;have hcs : wr.cell? ⟨Bs, 0, none⟩ = some (.slice (some ⟨g, 0, none⟩) M C) := by rw [ze _ _ _ _ _ _ (hk.1.trans hBs)]; rfl
    have hcn : wr.cell? ⟨Bn, 0, none⟩ = some (.int .i64 16) := (by rw [ze _ _ _ _ _ _ (hk.2.trans hBn)]; rfl);have HS:=kH hcs;have HN:=kH hcn;have HP:=kH hp;by_cases hlt : j < m
    · have hpM : p + 16 ≤ M := by have := HM.out; omega
      have hpM' : (p : Int) < (M : Int) := (by omega);have hpM2 : p ≤ M := (by omega);have hpC : p + 16 ≤ C := (by omega);have hCp : ¬ C = p := (by omega);clear hp hk
      gi_wp2
      refine wpIn_wide.2 ?_;refine wp_region_noPanic ?_;refine zh (S := fun w' => w'.cell? ⟨Bs, 0, none⟩ = some (.slice (some ⟨g, 0, none⟩) M C) ∧ w'.cell? ⟨Bn, 0, none⟩ = some (.int .i64 16)) (by kernel_rfl) (⟨HS.out, HN.out⟩) (fun hHeld => ?_);refine aW [(0,iZ 16),(1,.slice (some ⟨g, 0, none⟩) M C),(2,iZ (p : Int)),(3,.slice (some ⟨g, p, none⟩) (M - p) (C - p)),(4,iZ ((M - p : Nat) : Int))] hHeld ?_;refine zr (i := 5) (v := (.int .i64 16)) rfl (by kernel_rfl) (by kernel_rfl) (by kernel_rfl) (fun _ _ _ h => h) (Or.inl ⟨by rfl, ?_⟩) hHeld ?_
      · intro w hSw; (try dsimp only at hSw); simp only [ai]; go_simp; omega
      simp only [ai, Act.put, bj];refine tk 6 (.int .i64 16) rfl hHeld ?_;simp only [ai, Act.put, bj];refine zk (by kernel_rfl) ?_ _;refine NoPanic.normal ?_;obtain ⟨fn, tmps, assign, body, hy, hR⟩ := HYY.out _ ⟨j, hlt⟩ wr.drew (hJd _ _ hJs) (by rw [uV hj]; exact hlt);have e16 : (⟨g, j * 16, none⟩ : Addr) = ⟨g, p, none⟩ := (by rw [HP.out]);rw [e16] at hy;clear e16;have c1 : wr.drew.cell? ⟨Bs, 0, none⟩ = some (.slice (some ⟨g, 0, none⟩) M C) := HS.out;have c2 : wr.drew.cell? ⟨Bn, 0, none⟩ = some (.int .i64 16) := HN.out;have HRR : Hid _ := hR;clear hR
      gi_wp2
      refine RoundIn.mono HRR.out ?_;rintro e W3 (⟨rfl, hJ3, hk3⟩ | ⟨rfl, hJx3⟩)
      · have HK3 : Hid (Fl Bs Bn W W3) := ⟨hk3.1.trans HK.out.1, hk3.2.trans HK.out.2⟩
        have c3 : W3.cell? ⟨Bn, 0, none⟩ = some (.int .i64 16) := (by rw [jl (a := ⟨Bn, 0, none⟩) hk3.2]; exact HN.out);have HJ3 : Hid (J (fr m (j + 1)) W3) := by rw [pi hlt]; exact hJ3
        clear hJ3 hk3
        gi_wp2
        go_roundw
        case rel => exact ⟨j + 1, p + 16, by have := HP.out; omega, by omega, by simp, HJ3.out, HK3.out⟩
        case measure => simp [intOf]; omega
      · gi_wp2
        refine zv (results_none rfl _ _ _) rfl ?_;exact ⟨⟨_, rfl⟩, .inr ⟨_, ⟨j + 1, by omega, (pi hlt).symm⟩, hJx3⟩⟩
    · have hpe : p = M := by have := HM.out; have : j = m := by omega
                             subst this; omega
      have hje : Hid (j = m) := (by show _ = _; omega);subst hpe;clear hp hk
      gi_wp2
      go_end0
      exact ⟨⟨_, rfl⟩, .inl ⟨fr m j, congrArg (fr m) hje.out, hJs⟩⟩

theorem wS (n:Nat) (hn:1<=n) (Bs Bn g m M C:Nat) (hM:M=m*16) (hm:m<=1000) (hC:M<=C) (w:World) (hs:Bs<w.heap.size) (hs':Bn<w.heap.size)
  (hBs:w.heap[Bs]? = some (.cells #[.slice (some ⟨g,0,none⟩) M C] 159 (0,0))) (hBn:w.heap[Bn]? = some (.cells #[.int .i64 16] 3 (0,0))) :
  SeqStopsK Fence.wide n Tryz.prog 106 #[.pointer (some ⟨Bs,0,none⟩),.pointer (some ⟨Bn,0,none⟩)] (fun x:{ x:Nat // x<m }=>#[Value.slice (some ⟨g,x.1*16,none⟩) 16 16]) (Fl Bs Bn) (fun ys=>ys=fr m m)
   (fun pre=>∃k,k<=m/\pre=fr m k) m w:=fun l J Jx W hW hJ _ hY h0 =>
 A9 n hn l Bs Bn g m M C hM hm hC J Jx (fun pre W1 h=>hJ pre W1 W1.drew none h ⟨rfl,rfl,rfl,jd _,fun _ _ _=>rfl⟩ (fun r e=>by cases e)) hY W ((hW.block Bs hs).trans hBs) ((hW.block Bn hs').trans hBn) h0

theorem DF (n:Nat) (a:Option Addr) (len cap:Nat) (w:World) :
  CallsIn Fence.wide n Tryz.prog 73 #[.slice a len cap,.int .i64 16] w fun e w'=>e = .returned (.func (.func 106) #[] #[.pointer (some ⟨w.heap.size,0,none⟩),.pointer (some ⟨w.heap.size+1,0,none⟩)])/\w'=(w.alloc (.cells #[.slice a len cap] 159)).alloc (.cells #[.int .i64 16] 3):=by
 refine callsIn_of_wp Tryz.func73 rfl trivial ?_ rfl;simp only [Tryz.ntmps73,qv,jz,qF,Nat.reduceAdd,Nat.reduceSub,qU,qV,yr,yf,qq,jX]
 gi_wp2
 go_ret;exact ⟨rfl,rfl⟩
end
section
set_option maxRecDepth 100000
open Go.RowKit Go.Shelf

attribute [local go_sem] Oper.semAt_some

def oo (wt:List (Nat×List UInt8)) (h:∀x∈wt,x.2.length=16):List Wr:=wt.attach.map fun x=>⟨x.1,h x.1 x.2⟩
theorem mA (wt:List (Nat×List UInt8)) (h:∀x∈wt,x.2.length=16):(oo wt h).length=wt.length:=by simp [oo]
theorem Hp {wt:List (Nat×List UInt8)} {h:∀x∈wt,x.2.length=16} {i:Nat} {x:Wr} (hx:(oo wt h)[i]? = some x):wt[i]? = some x.1:=by
 unfold oo at hx;rw [jx] at hx
 cases e:wt.attach[i]? with
 | none=>rw [e] at hx;cases hx
 | some y =>
  rw [e] at hx;simp only [qE,jh] at hx;subst hx;have h2:(wt.attach.map (·.1))[i]? = some y.1:=by rw [jx,e];rfl
  rw [List.attach_map_subtype_val] at h2;exact h2

def eI (bl:List (List UInt8)) (wt:List (Nat×List UInt8)) (k:Nat):List UInt8:=match wt.reverse.find? (fun x=>x.1==k) with
 | some x=>x.2
 | none=>bl[k]?.getD []

theorem FF {wt:List (Nat×List UInt8)} {h:∀x∈wt,x.2.length=16} {i:Nat} (hi:i<wt.length):(oo wt h)[i]? = some ⟨wt[i],h _ (List.getElem_mem hi)⟩:=by
 unfold oo;rw [jc (by simpa using hi)]
 simp
theorem tf {wt:List (Nat×List UInt8)} {h:∀x∈wt,x.2.length=16} {k:Nat} (hk:k<=wt.length):(eS (oo wt h) k).map (fun p=>p.2.1)=wt.reverse.take k:=by
 apply List.ext_getElem
 ·simp [om,hk]
 ·intro i h1 h2
  have hi:i<k:=(by simpa [om] using h1);simp only [eS,qC,List.getElem_map,List.getElem_range,Function.comp,my,mA];rw [FF (by omega),List.getElem_take,List.getElem_reverse];rfl
theorem th {l:List (Nat×List UInt8)} {k:Nat} (h:∀x∈l,x.1≠k):l.find? (fun x=>x.1==k)=none:=by
 rw [yl];intro x hx
 simpa using h x hx
theorem FG {wt:List (Nat×List UInt8)} {h:∀x∈wt,x.2.length=16} {bl:List (List UInt8)} {k:Nat} {b:List UInt8} (hk:bl[k]? = some b) (hn:∀p∈eS (oo wt h) (oo wt h).length,p.2.1.1≠k):eI bl wt k=b:=by
 have e:=tf (wt:=wt) (h:=h) (jd _);rw [mA] at hn;rw [jr (by simp)] at e;unfold eI;rw [<-e,th (fun x hx=>?_)]
 ·simp [hk]
 ·obtain ⟨p,hp,rfl⟩:=jv.1 hx
  exact hn p hp
theorem FH {wt:List (Nat×List UInt8)} {h:∀x∈wt,x.2.length=16} {bl:List (List UInt8)} {k k':Nat} {ini:List (Nat×Wr)} {y:Nat×Wr} (hk':k'<=wt.length) (e1:eS (oo wt h) k'=ini ++ [y]) (e2:∀p∈ini,p.2.1.1≠k) (e3:y.2.1.1=k):eI bl wt k=y.2.1.2:=by
 have e:=tf (wt:=wt) (h:=h) hk';rw [e1] at e;unfold eI;rw [<-j8 k' wt.reverse,<-e,jR,jK,List.find?_append,th (fun x hx=>?_)]
 ·simp [e3]
 ·obtain ⟨p,hp,rfl⟩:=jv.1 hx
  exact e2 p hp

theorem DG {bb:Nat} {va:Option Addr} {vc:Nat} {bl:List (List UInt8)} {wt:List (Nat×List UInt8)} (k:Nat) (b:List UInt8) (w:World) (D:aX w bb va vc bl wt) (hk:bl[k]? = some b) (hwl:wt.length<=100000) :
    Cl 145 #[.pointer (some ⟨bb+1,0,none⟩),.int .i64 (k:Int)] w fun e w'=>e = .returned (.agg (bc (eI bl wt k)).toArray)/\Bl w w':=by
  refine (callsIn_wide (n:=5)).1 ?_;obtain ⟨c1,c2,_⟩:=D.cells;have hlt:=D.lt;have hltE:bb+1<w.heap.size+1:=(by omega);have hneD:¬bb+1=w.heap.size+1:=(by omega);have hneE:¬bb+1=w.heap.size:=(by omega);have h16:∀x∈wt,x.2.length=16:=fun x hx=>(D.wt16 x hx).2;refine callsIn_of_wp_marks Tryz.func145 rfl trivial ?_ rfl;simp only [Tryz.ntmps145,qv,jz,qF,Nat.reduceAdd,Nat.reduceSub,qU,qV,yr,yf,qq,jX];have HB:=FE Fence.wide 4 trivial rfl va wt.length vc
  gi_wp2_with (refine ⟨trivial,?_⟩;gi_at_call 176;refine (HB _).mono ?_;rintro e w' ⟨rfl,rfl⟩)
  have hsz:(((w.alloc (.cells #[.int .i64 (k:Int)] 3)).alloc (.cells #[.int .u8 0,.int .u8 0,.int .u8 0,.int .u8 0,.int .u8 0,.int .u8 0,.int .u8 0,.int .u8 0,.int .u8 0,.int .u8 0,.int .u8 0,.int .u8 0,.int .u8 0,.int .u8 0,.int .u8 0,.int .u8 0] 127)).alloc (.cells #[.slice va wt.length vc] 129)).heap.size=w.heap.size+3:=by simp
  have r0:(((w.alloc (.cells #[.int .i64 (k:Int)] 3)).alloc (.cells #[.int .u8 0,.int .u8 0,.int .u8 0,.int .u8 0,.int .u8 0,.int .u8 0,.int .u8 0,.int .u8 0,.int .u8 0,.int .u8 0,.int .u8 0,.int .u8 0,.int .u8 0,.int .u8 0,.int .u8 0,.int .u8 0] 127)).alloc (.cells #[.slice va wt.length vc] 129)).heap[w.heap.size]? = some (.cells #[.int .i64 (k:Int)] 3 (0,0)):=by
    rw [jp _ _ _ (by simp;omega),jp _ _ _ (by simp),heap_alloc_last]
  have r1:(((w.alloc (.cells #[.int .i64 (k:Int)] 3)).alloc (.cells #[.int .u8 0,.int .u8 0,.int .u8 0,.int .u8 0,.int .u8 0,.int .u8 0,.int .u8 0,.int .u8 0,.int .u8 0,.int .u8 0,.int .u8 0,.int .u8 0,.int .u8 0,.int .u8 0,.int .u8 0,.int .u8 0] 127)).alloc (.cells #[.slice va wt.length vc] 129)).heap[w.heap.size+1]? = some (.cells #[.int .u8 0,.int .u8 0,.int .u8 0,.int .u8 0,.int .u8 0,.int .u8 0,.int .u8 0,.int .u8 0,.int .u8 0,.int .u8 0,.int .u8 0,.int .u8 0,.int .u8 0,.int .u8 0,.int .u8 0,.int .u8 0] 127 (0,0)):=by
    have h:=heap_alloc_last (w.alloc (.cells #[.int .i64 (k:Int)] 3)) (.cells #[.int .u8 0,.int .u8 0,.int .u8 0,.int .u8 0,.int .u8 0,.int .u8 0,.int .u8 0,.int .u8 0,.int .u8 0,.int .u8 0,.int .u8 0,.int .u8 0,.int .u8 0,.int .u8 0,.int .u8 0,.int .u8 0] 127);rw [jE] at h;rw [jp _ _ _ (by simp)];exact h
  have r2:(((w.alloc (.cells #[.int .i64 (k:Int)] 3)).alloc (.cells #[.int .u8 0,.int .u8 0,.int .u8 0,.int .u8 0,.int .u8 0,.int .u8 0,.int .u8 0,.int .u8 0,.int .u8 0,.int .u8 0,.int .u8 0,.int .u8 0,.int .u8 0,.int .u8 0,.int .u8 0,.int .u8 0] 127)).alloc (.cells #[.slice va wt.length vc] 129)).heap[w.heap.size+1+1]? = some (.cells #[.slice va wt.length vc] 129 (0,0)):=by
    have h:=heap_alloc_last ((w.alloc (.cells #[.int .i64 (k:Int)] 3)).alloc (.cells #[.int .u8 0,.int .u8 0,.int .u8 0,.int .u8 0,.int .u8 0,.int .u8 0,.int .u8 0,.int .u8 0,.int .u8 0,.int .u8 0,.int .u8 0,.int .u8 0,.int .u8 0,.int .u8 0,.int .u8 0,.int .u8 0] 127)) (.cells #[.slice va wt.length vc] 129);rw [jE,jE] at h;exact h
  have hB0:Bl w (((w.alloc (.cells #[.int .i64 (k:Int)] 3)).alloc (.cells #[.int .u8 0,.int .u8 0,.int .u8 0,.int .u8 0,.int .u8 0,.int .u8 0,.int .u8 0,.int .u8 0,.int .u8 0,.int .u8 0,.int .u8 0,.int .u8 0,.int .u8 0,.int .u8 0,.int .u8 0,.int .u8 0] 127)).alloc (.cells #[.slice va wt.length vc] 129)):=(((je _ w).alloc (jd _) _).alloc (by simp) _).alloc (by simp;omega) _;obtain ⟨W0,hW0⟩:∃W0,(((w.alloc (.cells #[.int .i64 (k:Int)] 3)).alloc (.cells #[.int .u8 0,.int .u8 0,.int .u8 0,.int .u8 0,.int .u8 0,.int .u8 0,.int .u8 0,.int .u8 0,.int .u8 0,.int .u8 0,.int .u8 0,.int .u8 0,.int .u8 0,.int .u8 0,.int .u8 0,.int .u8 0] 127)).alloc (.cells #[.slice va wt.length vc] 129))=W0:=⟨_,rfl⟩;rw [hW0] at hsz r0 r1 r2 hB0 ⊢;clear hW0;have D0:=D.below (jd _) hB0
  refine wpIn_rangeFunc_ownH rfl (by omega) (gf:=196) (lb:=#[.pointer (some ⟨w.heap.size+1+1,0,none⟩)]) rfl trivial (enters_of Tryz.func196 (by kernel_rfl) rfl)
    (zs Fence.wide 4 trivial rfl (by omega) (w.heap.size+1+1) (w.heap.size+3) va vc (oo wt h16) (by rw [mA];exact hwl) W0 (by omega) (by omega) (by rw [ze _ _ _ _ _ _ r2,mA];rfl)
      (fun i x hx=>by
        obtain ⟨g,e,h,_⟩:=D0.write_range (Hp hx);exact ⟨g,e,by have:=(D.low _ e).2.1;simp only at this;omega,h⟩)) belowK_t (belowK_b (by omega)) (je _ _) (fun _=>rfl)
    (fun pre W=>(∀p∈pre,p.2.1.1≠k)/\Below (w.heap.size+3) W0 W)
    (fun c pre W=>(c = .ret/\∃ini last,pre=ini ++ [last]/\(∀p∈ini,p.2.1.1≠k)/\last.2.1.1=k/\W.heap[w.heap.size+1]? = some (.cells (bc last.2.1.2).toArray 127 (0,0)))/\Below w.heap.size W0 W)
    (OwnFrom.and (ownFrom_pure _ _) (ownFrom_below (by omega) (by omega)))
    (fun c=>OwnFrom.and (Own.from (fun s A B row hs hg hr=>by obtain ⟨h1,ini,last,e1,e2,e3,e4⟩:=hs;exact ⟨h1,ini,last,e1,e2,e3,uS (w.heap.size+1) 127 (fun (_:Unit)=>(bc last.2.1.2).toArray) () A B row e4 hg hr⟩) _) (ownFrom_below (by omega) (by omega)))
    ⟨by simp,je _ _⟩
    (fun x a' W=>∃Bx,w.heap.size+3<=Bx/\W.heap[Bx]? = some (.cells (wc x.2.1).toArray 135 (0,0))/\a' = { tmps:=#[.pointer (some ⟨bb+1,0,none⟩),.int .i64 (k:Int),undef,.pointer (some ⟨w.heap.size,0,none⟩),.pointer (some ⟨w.heap.size+1,0,none⟩),undef,.pointer (some ⟨Bx,0,none⟩),.pointer (some ⟨bb+1,0,none⟩),.pointer (some ⟨bb+1,0,none⟩),.pointer (some ⟨bb+1,1,none⟩),.slice va wt.length vc,.func (.func 196) #[] #[.pointer (some ⟨w.heap.size+1+1,0,none⟩)],.int .i64 (x.1:Int),.agg (wc x.2.1).toArray,undef,undef,undef,undef,undef,undef,undef,undef,undef,undef,undef,undef,undef],defers:=[] })
    (fun x a' _ X Y row hs hg hr=>by obtain ⟨Bx,h1,h2,h3⟩:=hs;exact ⟨Bx,h1,uS Bx 135 (fun (_:Unit)=>(wc x.2.1).toArray) () X Y row h2 hg (fun r e=>(hr r e).2),h3⟩)
    ?assign ?body ?done ?stop
  case assign =>
    rintro l pre x W K ⟨hp,hB⟩ hK;have h17:Hid ((Tryz.prog.info? 135).map (·.size)=some (wc x.2.1).length):=by show _=_;rw [DC];exact uT
    have hl17:Hid (17=(wc x.2.1).length):=by show _=_;rw [DC]
    gi_wp2_with (refine ol (by rfl) 135 135 _ _ (by rfl) _ (wc x.2.1) (by rfl) (by rfl) hl17.out h17.out (rk _) ?_)
    exact hK _ _ ((KeepsOthers.alloc _ _).from _) ((je _ W).alloc (by have:=hB.size;omega) _) ⟨hp,hB.alloc (by have:=hB.size;omega) _⟩ ⟨W.heap.size,by have:=hB.size;omega,heap_alloc_last W _,rfl⟩
  case body =>
    rintro l pre x a' W hl ⟨r,hr⟩ ⟨hp,hB⟩ ⟨Bx,hBx,bX,rfl⟩ hlt2;have cx:W.cell? ⟨Bx,0,none⟩=some (.int .i64 (x.2.1.1:Int)):=by rw [ze _ _ _ _ _ _ bX];rfl
    have ck:W.cell? ⟨w.heap.size,0,none⟩=some (.int .i64 (k:Int)):=by rw [hB.cell (p:=⟨w.heap.size,0,none⟩) (by simp only;omega),ze _ _ _ _ _ _ r0];rfl
    have HBX:Hid (W.rangeAt Bx 1 (bc x.2.1.2)):=fun j v hj=>by
      rw [ze _ _ _ _ _ _ bX];simp only [wc,yw];rw [Nat.add_comm,qo];exact hj
    have hR1:W.heap[w.heap.size+1]? = some (.cells #[.int .u8 0,.int .u8 0,.int .u8 0,.int .u8 0,.int .u8 0,.int .u8 0,.int .u8 0,.int .u8 0,.int .u8 0,.int .u8 0,.int .u8 0,.int .u8 0,.int .u8 0,.int .u8 0,.int .u8 0,.int .u8 0] 127 (0,0)):=(hB.block _ (by omega)).trans r1
    have HTH:Hid (W.there (w.heap.size+1) 0 (bc x.2.1.2).toArray.size):=by
      refine dP hR1 ?_
      simp [dO,x.2.2]
    have HI:Hid ((Tryz.prog.info? 127).map (·.size)=some (bc x.2.1.2).length):=(by show _=_;rw [dO,x.2.2];exact mz);have HR1:Hid _:=hR1;have HBXr:Hid _:=bX;clear bX hR1;by_cases hxk:x.2.1.1=k
    · have hb:((x.2.1.1:Int)==(k:Int))=true:=by rw [hxk];exact beq_self_eq_true _
      have HXK:=kH hxk;clear hxk
      gi_wp2_with (first
        | refine kI (by rfl) 127 _ (by rfl) Bx 1 (by rfl) (bc x.2.1.2) _ HBX.out Tryz.underlying127 rfl HI.out ?_
        | refine i8 (by rfl) 127 _ _ (by rfl) (w.heap.size+1) 0 (bc x.2.1.2).toArray (by rfl) (by rfl) HTH.out (by simpa using HI.out) (all_oneCell_toArray (oj _)) ?_)
      refine ⟨(iC _ _ _ _).from _,⟨rfl,pre,x,rfl,hp,HXK.out,?_⟩,(below_setCells (by omega) _ _ _ (hB.mono (by omega)))⟩;rw [eZ _ _ _ _ HR1.out (by simp [dO,x.2.2])];rw [gh _ _ (by simp [dO,x.2.2])]
    · have hb:((x.2.1.1:Int)==(k:Int))=false:=zl.2 (by omega)
      gi_wp2
      exact ⟨KeepsFrom.refl _ _,je _ _,fun p hp'=>(jT.1 hp').elim (hp p) (fun e=>by rw [jF.1 e];exact hxk),hB⟩
  case done =>
    rintro Dd ys W hD rfl ⟨hne,hB⟩ hK;have hbr:Hid (eI bl wt k=b):=FG hk hne;have hb16:b.length=16:=D.bl16 b (jg hk)
    have DW:aX W bb va vc bl wt:=D0.ext fun j hj=>hB.block j (by
      rcases hj with rfl|rfl|⟨a,ha,rfl⟩
      · omega
      · omega
      · have:=(D.low a ha).2.1;omega)
    have hkl:k<bl.length:=(jb.1 hk).1
    have HSW:Hid (∀w',Below (w.heap.size+3) W w'->(w'.cell? ⟨bb+1,0,none⟩=some (.slice (some ⟨bb,0,none⟩) bl.length bl.length)/\w'.cell? ⟨w.heap.size,0,none⟩=some (.int .i64 (k:Int))/\w'.rangeAt bb (k*16) (bc b))):=fun w' h =>
      ⟨by rw [h.cell (p:=⟨bb+1,0,none⟩) (by simp only;omega)];exact DW.cells.1,
       by rw [h.cell (p:=⟨w.heap.size,0,none⟩) (by simp only;omega),hB.cell (p:=⟨w.heap.size,0,none⟩) (by simp only;omega),ze _ _ _ _ _ _ r0];rfl,
       fun j v hj=>by rw [h.cell (p:=⟨bb,k*16+j,none⟩) (by simp only;omega)];exact DW.block_range hk j v hj⟩
    have hR1:W.heap[w.heap.size+1]? = _:=(hB.block _ (by omega)).trans r1;have HI:Hid ((Tryz.prog.info? 127).map (·.size)=some (bc b).length):=by show _=_;rw [dO,hb16];exact mz
    have HTH:Hid (W.drew.there (w.heap.size+1) 0 (bc b).toArray.size):=(World.there_drew _ _ _ _).2 (dP hR1 (by simp [dO,hb16]))
    have HR2:Hid ((W.drew.setCells (w.heap.size+1) 0 (bc b)).heap[w.heap.size+1]? = some (.cells (bc b).toArray 127 (0,0))):=by
      show _=_;rw [eZ _ _ W.drew _ hR1 (by simp [dO,hb16]),gh _ _ (by simp [dO,hb16])]
    have HS7:Hid ((W.drew.setCells (w.heap.size+1) 0 (bc b)).cell? ⟨bb+1,0,none⟩=some (.slice (some ⟨bb,0,none⟩) bl.length bl.length)/\(W.drew.setCells (w.heap.size+1) 0 (bc b)).cell? ⟨w.heap.size,0,none⟩=some (.int .i64 (k:Int))/\(W.drew.setCells (w.heap.size+1) 0 (bc b)).rangeAt bb (k*16) (bc b)):=by
      obtain ⟨g1,g2,g3⟩:=HSW.out _ (je _ _).drew;refine ⟨?_,?_,World.rangeAt_setCells_apart g3 _ _ _ (.inl (by omega))⟩
      · rw [jl (ct (show bb+1≠w.heap.size+1 by omega) _ _ _)];exact g1
      · rw [jl (ct (show w.heap.size≠w.heap.size+1 by omega) _ _ _)];exact g2
    have HE:Hid (Bl w (W.drew.setCells (w.heap.size+1) 0 (bc b))):=below_setCells (by omega) _ _ _ (hB0.trans (hB.mono (by omega)).drew);have HK:Hid _:=hK;have HDs:Hid (w.heap.size+3<=Dd):=by show _<=_;omega
    clear hne D DW D0 hK
    gi_wp2
    refine wpIn_wide.2 ?_;refine wp_region_noPanic ?_;refine zh (S:=fun w'=>w'.cell? ⟨bb+1,0,none⟩=some (.slice (some ⟨bb,0,none⟩) bl.length bl.length)/\w'.cell? ⟨w.heap.size,0,none⟩=some (.int .i64 (k:Int))/\w'.rangeAt bb (k*16) (bc b)) (by kernel_rfl) (HSW.out _ (je _ _).drew) (fun hHeld=>?_);refine aW [(0,pZ (bb+1) 0),(1,pZ (bb+1) 0),(2,pZ (bb+1) 0),(3,.slice (some ⟨bb,0,none⟩) bl.length bl.length),(4,iZ k),(5,pZ bb (k*16))] hHeld ?_;refine zr (i:=6) (v:=.agg (bc b).toArray) rfl (by kernel_rfl) (by kernel_rfl) (by kernel_rfl) (fun _ _ _ h=>h) (yieldsIf_load_mid (by rfl) 127 _ (by rfl) bb (k*16) (by rfl) (bc b) _ (fun w h=>h.2.2) Tryz.underlying127 rfl HI.out) hHeld ?_;simp only [ai,Act.put,bj];refine zo (rs:=[7]) (by kernel_rfl) (by simp) ?_;refine jC rfl (fun K' hK'=>?_) jW;refine d7 (by rfl) 127 _ _ (by rfl) (w.heap.size+1) 0 (bc b).toArray (by rfl) (by rfl) HTH.out (by simpa using HI.out) (all_oneCell_toArray (oj b)) ?_;simp only [qg,j9,qd,Act.put];refine hK'.out _ _ HS7.out (fun hHeld'=>?_);clear hK' K' hHeld;have hHeld:=hHeld';clear hHeld';refine zk (by kernel_rfl) ?_ _;refine NoPanic.normal ?_
    gi_wp2
    have hK':=(iC (w.heap.size+1) (bc b) 0 W.drew).same Dd _ HK.out rfl;refine ⟨by simp,.inl ⟨_,_,rfl,run_takeDeferred hK',?_⟩⟩;have hD3:=HDs.out;have hcr':((W.drew.setCells (w.heap.size+1) 0 (bc b)).putObj Dd (.deferred none)).heap[w.heap.size+1]? = some (.cells (bc b).toArray 127 (0,0)):=(World.putObj_heap_other (by omega)).trans HR2.out;refine ⟨.agg (bc (eI bl wt k)).toArray,?_,rfl,HE.out.trans (belowK_b (w:=w) (jd _) _ Dd _ _ (by omega) hK' rfl rfl)⟩;rw [hbr.out];exact results_cell_row rfl _ _ (w.heap.size+1) 127 _ (0,0) _ rfl hcr' Tryz.underlying127 rfl (by simp only [qv,dO,hb16];exact mz)
  case stop =>
    rintro Dd c pre W hD ⟨k',hk',rfl⟩ ⟨⟨rfl,ini,last,e1,e2,e3,hcr⟩,hB⟩ hK;have hbr:Hid (eI bl wt k=last.2.1.2):=FH (by rw [<-mA wt h16];exact hk') e1 e2 e3
    gi_wp2
    refine ⟨by simp,.inl ⟨_,_,rfl,run_takeDeferred hK,?_⟩⟩;have hcr':(W.putObj Dd (.deferred none)).heap[w.heap.size+1]? = some (.cells (bc last.2.1.2).toArray 127 (0,0)):=(World.putObj_heap_other (by omega)).trans hcr;refine ⟨.agg (bc (eI bl wt k)).toArray,?_,rfl,(hB0.trans hB).trans (belowK_b (w:=w) (jd _) W Dd _ _ (by omega) hK rfl rfl)⟩;rw [hbr.out];exact results_cell_row rfl _ _ (w.heap.size+1) 127 _ (0,0) _ rfl hcr' Tryz.underlying127 rfl (by simp only [qv,dO,last.2.2];exact mz)
end
section
set_option maxRecDepth 100000
open Go.RowKit

theorem FI {bl:List (List UInt8)} {wt:List (Nat×List UInt8)} {k:Nat} {b:List UInt8} (hk:bl[k]? = some b):eI bl wt k=b∨(k,eI bl wt k)∈wt:=by
 unfold eI
 cases h:wt.reverse.find? (fun x=>x.1==k) with
 | none=>left;simp [hk]
 | some x =>
  right
  have h1:=List.find?_some h;have h2:=List.mem_of_find?_eq_some h;have e:x.1=k:=(by simpa using h1);rw [<-e]
  simpa using h2
theorem FJ {w:World} {bb:Nat} {va:Option Addr} {vc:Nat} {bl:List (List UInt8)} {wt:List (Nat×List UInt8)} (D:aX w bb va vc bl wt) {k:Nat} {b:List UInt8} (hk:bl[k]? = some b):(eI bl wt k).length=16:=by
 rcases FI (wt:=wt) hk with h|h
 ·rw [h];exact D.bl16 b (jg hk)
 ·exact (D.wt16 _ h).2

theorem DH {bb:Nat} {va:Option Addr} {vc:Nat} {bl:List (List UInt8)} {wt:List (Nat×List UInt8)} (k:Nat) (b:List UInt8) (w:World) (D:aX w bb va vc bl wt) (hk:bl[k]? = some b) (hwl:wt.length<=100000) :
  Cl 113 #[.pointer (some ⟨bb+1,0,none⟩),.int .i64 (k:Int)] w fun e w'=>e = .returned (.tuple #[.string ⟨(eI bl wt k).toArray⟩,.nilIface])/\Bl w w':=by
 have HH:=ph (k:Int) w D;have hkl:=(jb.1 hk).1;rw [nc (by omega) (by omega)] at HH;have HL:=DG k b w D hk hwl;have h16:=FJ D hk;obtain ⟨l,hl⟩:∃l,l=eI bl wt k:=⟨_,rfl⟩;rw [<-hl] at h16 HL ⊢;have HI:Hid ((Tryz.prog.info? 127).map (·.size)=some (bc l).length):=by show _=_;rw [dO,h16];exact mz
 have HCV:∀W:World,(convert 159 9 (.slice (some ⟨W.heap.size,0,none⟩) 16 16)).run Tryz.prog (W.alloc (.cells (bc l).toArray 127)) = .ok (.string ⟨l.toArray⟩) (W.alloc (.cells (bc l).toArray 127)):=fun W=>by
  have:=run_convert_bytes_back (P:=Tryz.prog) (W.alloc (.cells (bc l).toArray 127)) 159 9 5 ⟨W.heap.size,0,none⟩ 16 l Tryz.underlying159 Tryz.underlying5 Tryz.underlying9 (fun j hj=>by
   rw [Addr.add_mid,ze _ _ _ _ _ _ (heap_alloc_last W _)]
   simp [bc,hj])
  rw [h16] at this;exact this
 have hl16:Hid (16=(bc l).length):=by show _=_;rw [dO,h16]
 clear D hl hk;go_enter Tryz.func113,Tryz.ntmps113
 go_wp2_with (first
  | (go_at_call 59;refine HH.mono ?_;rintro e w' ⟨rfl,hw⟩;rw [hw];clear hw)
  | (go_at_call 145;refine HL.mono ?_;rintro e w1 ⟨rfl,hb1⟩)
  | refine gO (by rfl) 127 127 _ _ (by rfl) _ (bc l) (by rfl) (by rfl) hl16.out HI.out (oj _) ?_)
 go_ret2;exact ⟨rfl,hb1.alloc hb1.size _⟩
def bU (keep:Nat->Bool) (wt:List (Nat×List UInt8)) (bl:List (List UInt8)):Nat->List (List UInt8)
 | 0=>bl
 | i+1=>match wt[i]? with
  | some x=>if keep i then (bU keep wt bl i).set x.1 x.2 else bU keep wt bl i
  | none=>bU keep wt bl i
theorem fP (keep:Nat->Bool) (wt:List (Nat×List UInt8)) (bl:List (List UInt8)):∀i,(bU keep wt bl i).length=bl.length
 | 0=>rfl
 | i+1=>by
  unfold bU
  cases wt[i]? with
  | none=>exact fP keep wt bl i
  | some x=>by_cases h:keep i <;> simp [h,fP keep wt bl i]

theorem zy {bb:Nat} {va:Option Addr} {vc:Nat} {bl:List (List UInt8)} {wt:List (Nat×List UInt8)} (g:Nat) (lb:Array Value) (keep:Nat->Bool) (w:World) (D:aX w bb va vc bl wt) (hwl:wt.length<=100000)
  (eg:∀args w,(callFunc g args).run Tryz.prog w = .ok (.enter g args) w)
  (HF:∀(i:Nat) (W:World),i<wt.length->bW bb va w W->Cl g (#[.int .i64 (i:Int)]++lb) W fun e W'=>e = .returned (.bool (keep i))/\W'=W) :
  Cl 107 #[.pointer (some ⟨bb+1,0,none⟩),.func (.func g) #[] lb] w fun e w'=>e = .returned (.tuple #[])/\aX w' bb none 0 (bU keep wt bl wt.length) []/\bW bb va w w':=by
 obtain ⟨c1,c2,_⟩:=D.cells;have HD:=kH D;have HFF:=kH HF;clear D HF;go_enter Tryz.func107,Tryz.ntmps107;go_wp2_with fail
 clear c1 c2
 go_loopw [13] (fun i wr=>∃j:Nat,j<=wt.length/\i = .int .i64 j/\aX wr bb va vc (bU keep wt bl j) wt/\bW bb va w wr) (fun i _=>wt.length-(intOf i).toNat)
 case atStart=>exact ⟨0,jq _,rfl,HD.out,bW.of_below (je _ _)⟩
 case round =>
  obtain ⟨j,hj,rfl,D,hbut⟩:=hrel;have HDr:Hid _:=D;have HBUT:Hid _:=hbut;by_cases hlt:j<wt.length
  ·obtain ⟨x,HX⟩:∃x,Hid (wt[j]? = some x):=⟨_,jc hlt⟩
   obtain ⟨ga,rfl,hr,_⟩:=D.write_range HX.out;have hx16:=D.wt16 x (jg HX.out);have HR:=kH hr;have h17:Hid ((Tryz.prog.info? 135).map (·.size)=some (wc x).length):=by show _=_;rw [mx,hx16.2];exact uT
   have hl17:Hid (17=(wc x).length):=(by show _=_;rw [mx,hx16.2]);clear D hbut hr;have HC:=HFF.out j (wr.alloc (.cells (wc x).toArray 135)) hlt (HBUT.out.trans (bW.of_below ((je _ _).alloc (jd _) _)))
   cases hkeep:keep j with
   | false =>
    rw [hkeep] at HC
    go_wp2_with (first
     | refine wpList_load_mid (by rfl) 135 _ (by rfl) ga (j*17) (by rfl) (wc x) _ HR.out Tryz.underlying135 rfl h17.out ?_
     | refine gO (by rfl) 135 135 _ _ (by rfl) _ (wc x) (by rfl) (by rfl) hl17.out h17.out (rk _) ?_
     | (refine HC.mono ?_;rintro e w' ⟨rfl,hw⟩;rw [hw];clear hw))
    refine ⟨⟨j+1,by omega,by simp,?_,HBUT.out.trans (bW.of_below ((je _ _).alloc (jd _) _))⟩,by simp [intOf];omega⟩
    have e:bU keep wt bl (j+1)=bU keep wt bl j:=by
     show (match wt[j]? with|some x=>if keep j then (bU keep wt bl j).set x.1 x.2 else bU keep wt bl j|none=>bU keep wt bl j)=_;rw [HX.out,hkeep];rfl
    rw [e];exact HDr.out.below (jd _) ((je _ _).alloc (jd _) _)
   | true =>
    rw [hkeep] at HC;obtain ⟨BL,HBL⟩:∃BL,Hid (BL=bU keep wt bl j):=⟨_,(rfl:bU keep wt bl j=_)⟩;have HDB:Hid (aX wr bb (some ⟨ga,0,none⟩) vc BL wt):=by rw [HBL.out];exact HDr.out
    have hxl:x.1<BL.length:=(by rw [HBL.out,fP];have:=(HD.out.wt16 x (jg HX.out)).1;exact this);have hltw:=HDB.out.lt;have DA:aX (wr.alloc (.cells (wc x).toArray 135)) bb (some ⟨ga,0,none⟩) vc BL wt:=HDB.out.below (jd _) ((je _ _).alloc (jd _) _);have hxb:BL[x.1]? = some BL[x.1]:=jc hxl;have HI:Hid ((Tryz.prog.info? 127).map (·.size)=some (bc x.2).length):=by show _=_;rw [dO,hx16.2];exact mz
    have HSW:Hid ((wr.alloc (.cells (wc x).toArray 135)).drew.cell? ⟨bb+1,0,none⟩=some (.slice (some ⟨bb,0,none⟩) BL.length BL.length)/\(wr.alloc (.cells (wc x).toArray 135)).drew.cell? ⟨wr.heap.size,0,none⟩=some (.int .i64 (x.1:Int))/\(wr.alloc (.cells (wc x).toArray 135)).drew.rangeAt wr.heap.size 1 (bc x.2)):=by
     refine ⟨DA.cells.1,?_,(World.rangeAt_drew _ _ _ _).2 fun i v hi=>?_⟩
     ·have:=ze _ _ 0 _ _ _ (heap_alloc_last wr (.cells (wc x).toArray 135));exact this
     ·rw [ze _ _ _ _ _ _ (heap_alloc_last wr (.cells (wc x).toArray 135))]
      simp only [wc,yw];rw [Nat.add_comm,qo];exact hi
    have HTH:Hid ((wr.alloc (.cells (wc x).toArray 135)).drew.there bb (x.1*16) (bc x.2).toArray.size):=by
     show World.there _ _ _ _;rw [World.there_drew];simp only [qv,dO,hx16.2];exact DA.block_there hxb
    have HS7:Hid (((wr.alloc (.cells (wc x).toArray 135)).drew.setCells bb (x.1*16) (bc x.2)).cell? ⟨bb+1,0,none⟩=some (.slice (some ⟨bb,0,none⟩) BL.length BL.length)/\((wr.alloc (.cells (wc x).toArray 135)).drew.setCells bb (x.1*16) (bc x.2)).cell? ⟨wr.heap.size,0,none⟩=some (.int .i64 (x.1:Int))/\((wr.alloc (.cells (wc x).toArray 135)).drew.setCells bb (x.1*16) (bc x.2)).rangeAt wr.heap.size 1 (bc x.2)):=by
     obtain ⟨g1,g2,g3⟩:=HSW.out;refine ⟨?_,?_,World.rangeAt_setCells_apart g3 _ _ _ (.inl (by omega))⟩
     ·rw [jl (ct (show bb+1≠bb by omega) _ _ _)];exact g1
     ·rw [jl (ct (show wr.heap.size≠bb by omega) _ _ _)];exact g2
    have HE:Hid (aX ((wr.alloc (.cells (wc x).toArray 135)).drew.setCells bb (x.1*16) (bc x.2)) bb (some ⟨ga,0,none⟩) vc (BL.set x.1 x.2) wt):=aX.set_block (DA.ext (w':=(wr.alloc (.cells (wc x).toArray 135)).drew) fun _ _=>rfl) hxb hx16.2;have HEB:Hid (bW bb (some ⟨ga,0,none⟩) w ((wr.alloc (.cells (wc x).toArray 135)).drew.setCells bb (x.1*16) (bc x.2))):=(HBUT.out.trans (bW.of_below ((je _ _).alloc (jd _) _).drew)).trans (aX.but_block _ _);clear DA hxb hltw
    go_wp2_with (first
     | refine wpList_load_mid (by rfl) 135 _ (by rfl) ga (j*17) (by rfl) (wc x) _ HR.out Tryz.underlying135 rfl h17.out ?_
     | refine gO (by rfl) 135 135 _ _ (by rfl) _ (wc x) (by rfl) (by rfl) hl17.out h17.out (rk _) ?_
     | (refine HC.mono ?_;rintro e w' ⟨rfl,hw⟩;rw [hw];clear hw))
    refine zh (S:=fun w'=>w'.cell? ⟨bb+1,0,none⟩=some (.slice (some ⟨bb,0,none⟩) BL.length BL.length)/\w'.cell? ⟨wr.heap.size,0,none⟩=some (.int .i64 (x.1:Int))/\w'.rangeAt wr.heap.size 1 (bc x.2)) (by kernel_rfl) (HSW.out) (fun hHeld=>?_);refine aW [(0,pZ (bb+1) 0),(1,pZ (bb+1) 0),(2,pZ (bb+1) 0),(3,.slice (some ⟨bb,0,none⟩) BL.length BL.length),(4,pZ wr.heap.size 0),(5,iZ (x.1:Int)),(6,pZ wr.heap.size 1)] hHeld ?_;refine zr (i:=7) (v:=.agg (bc x.2).toArray) rfl (by kernel_rfl) (by kernel_rfl) (by kernel_rfl) (fun _ _ _ h=>h) (yieldsIf_load_mid (by rfl) 127 _ (by rfl) wr.heap.size 1 (by rfl) (bc x.2) _ (fun w h=>h.2.2) Tryz.underlying127 rfl HI.out) hHeld ?_;simp only [ai,Act.put,bj];refine tk 8 (.pointer (some ⟨bb,x.1*16,none⟩)) rfl hHeld ?_;simp only [ai,Act.put,bj];refine zo (rs:=[9]) (by kernel_rfl) (by simp) ?_;refine jC rfl (fun K' hK'=>?_) jW;refine d7 (by rfl) 127 _ _ (by rfl) bb (x.1*16) (bc x.2).toArray (by rfl) (by rfl) HTH.out (by simpa using HI.out) (all_oneCell_toArray (oj x.2)) ?_;simp only [qg,j9,qd,Act.put];refine hK'.out _ _ HS7.out (fun hHeld'=>?_);clear hK' K' hHeld;have hHeld:=hHeld';clear hHeld';refine zk (by kernel_rfl) ?_ _;go_wp2_with fail
    refine ⟨⟨j+1,by omega,by simp,?_,HEB.out⟩,by simp [intOf];omega⟩
    have e:bU keep wt bl (j+1)=BL.set x.1 x.2:=by
     show (match wt[j]? with|some x=>if keep j then (bU keep wt bl j).set x.1 x.2 else bU keep wt bl j|none=>bU keep wt bl j)=_;rw [HX.out,hkeep,HBL.out];rfl
    rw [e];exact HE.out
  ·obtain rfl:j=wt.length:=by omega
   obtain ⟨c1,c2,c3⟩:=D.cells;clear D hbut;go_wp2_with fail
   go_returns;exact ⟨rfl,HDr.out.forget,HBUT.out.trans (aX.but_forget _)⟩
end
end Go.Proofs.YthofhjnfkholoaaGreatDoor
