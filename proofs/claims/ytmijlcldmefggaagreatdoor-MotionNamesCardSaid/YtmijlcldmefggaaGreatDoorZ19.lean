/- What the proof rests on, part 19. -/
import Derived.Test.YtmijlcldmefggaaGreatDoorZ18
import Derived.Lib.Builder
import Derived.Lib.ItoaNum
import Derived.Test.YtmijlcldmefggaaGreatDoorZ00
import Derived.Test.YtmijlcldmefggaaGreatDoorZ03
import Derived.Shelf.Strings.Repeat
import Derived.Test.YtmijlcldmefggaaGreatDoorZ07
import Derived.Test.YtmijlcldmefggaaGreatDoorZ17
import Derived.Test.YtmijlcldmefggaaGreatDoorZ05
namespace Go.Proofs.YtmijlcldmefggaaGreatDoor
set_option maxRecDepth 100000
set_option maxHeartbeats 80000000
section
open Go.RowKit Go.Sort
theorem bldSize:(Tryz.prog.info? 288).map (·.size)=some 2:=by kernel_rfl
theorem bldLies:liesAt Tryz.prog Tryz.prog.depth 288 (2 / Tryz.prog.cellsOf 288) 0 288 1=true:=by kernel_rfl
theorem byteInfo:(Tryz.prog.info? 5).map (fun i=>(i.zero,i.size,i.bytes))=some (some (.int .u8 0),1,1):=by kernel_rfl
abbrev BldP (b:Nat):Value:=.pointer (some ⟨b,0,none⟩)
theorem check_used (b:Nat) (w:World) (h0:w.cell? ⟨b,0,none⟩=some (BldP b)) :
  Calls Tryz.prog 261 #[BldP b] w fun e w'=>e=.returned (.tuple #[])∧w' = w:=by
 obtain ⟨j,hj,_⟩:=Option.map_eq_some_iff.1 bldSize
 go_enter Tryz.func261,Tryz.ntmps261
 go_wp2
 rw [Lib.run_neq_ptr_same w _ Tryz.underlying286 hj]
 go_wp2
 go_end0
 exact ⟨rfl,rfl⟩
theorem check_fresh (b:Nat) (w:World) (h0:w.cell? ⟨b,0,none⟩=some (.pointer none)) (hsh:w.shape? b=some (288,2)) (hfz:w.frozen? ⟨b,0,none⟩=false) :
  Calls Tryz.prog 261 #[BldP b] w fun e w'=>e=.returned (.tuple #[])∧w' = w.setCell ⟨b,0,none⟩ (BldP b):=by
 obtain ⟨j,hj,hjs⟩:=Option.map_eq_some_iff.1 bldSize
 go_enter Tryz.func261,Tryz.ntmps261
 go_wp2
 rw [Lib.run_to_unsafe w ⟨b,0,none⟩ Tryz.underlying286 Tryz.underlying388 hj (by rw [hjs];decide) hsh (Nat.zero_lt_succ 1)]
 simp only [Result.andThen]
 rw [Oper.upon_value]
 go_wp2
 rw [run_callFunc_extern Tryz.func312 (by kernel_rfl) (by kernel_rfl) (by kernel_rfl) (e:=Extern.AbiNoEscape.same) (by kernel_rfl)]
 rw [Lib.run_noEscape]
 simp only [Result.andThen]
 rw [Oper.upon_value]
 go_wp2
 rw [Lib.run_from_unsafe w ⟨b,0,none⟩ Tryz.underlying388 Tryz.underlying286 hj hsh bldLies]
 simp only [Result.andThen]
 rw [Oper.upon_value]
 go_wp2
 go_end0
 exact ⟨rfl,rfl⟩
theorem check_calls (B b:Nat) (bs:List Value) (w:World) (h:Lib.IsBuilder 288 5 B b bs w) :
  Calls Tryz.prog 261 #[BldP b] w fun e w'=>e=.returned (.tuple #[])∧(Lib.BuilderAt 288 5 B b (BldP b) bs w'∧Below B w w'):=by
 rcases h with h | h
 ·refine (check_fresh b w h.cell0 h.shape h.frozen0).mono ?_
  rintro e w' ⟨rfl,rfl⟩
  exact ⟨rfl,h.used _,(Below.refl B w).setCell (p:=⟨b,0,none⟩) h.1 _⟩
 ·refine (check_used b w h.cell0).mono ?_
  rintro e w' ⟨rfl,rfl⟩
  exact ⟨rfl,h,Below.refl B _⟩
theorem write_calls (B b:Nat) (bs:List Value) (s:ByteArray) (w:World) (h:Lib.IsBuilder 288 5 B b bs w) (hlen:bs.length+s.size≤140737488355328) (hBw:B≤w.heap.size) :
  Calls Tryz.prog 197 #[BldP b,.string s] w fun e w'=>e=.returned (.tuple #[.int .i64 s.size,.nilIface])∧(Lib.BuilderAt 288 5 B b (BldP b) (bs ++ Lib.strCells s) w'∧Below B w w'):=by
 obtain ⟨i0,hi,hz0,hz1,hz2⟩:=info_parts byteInfo
 go_enter Tryz.func197,Tryz.ntmps197
 go_wp2_with (go_at_call 261;refine (check_calls B b bs _ h).mono ?_)
 rintro e w1 ⟨rfl,h1,hb1⟩
 obtain ⟨hB,v,hbk,hown,hne⟩:=h1
 have c0:w1.cell? ⟨b,0,none⟩=some (BldP b):=by rw [Lib.cell_of_heap hbk];rfl
 have c1:w1.cell? ⟨b,1,none⟩=some v:=by rw [Lib.cell_of_heap hbk];rfl
 go_wp2_with (at_builtin;refine Lib.wpList_append_own_string _ rfl _ _ 84 9 rfl B 5 i0 Tryz.underlying84 Tryz.underlying9 hi hz0 hz1 hz2 _ _ _ rfl hown s rfl ?c3 ?c4 ?c5 ?_)
 case c3=>unfold maxLen;omega
 case c4=>omega
 case c5=>have:=hb1.size;omega
 intro v' w2 hown' hgrow _
 have hlt:b<w1.heap.size:=by
  rcases Nat.lt_or_ge b w1.heap.size with h' | h'
  ·exact h'
  ·simp [Array.getElem?_eq_none h'] at hbk
 have hb2:w2.heap[b]? = some (.cells #[BldP b,v] 288 (0,0)):=by
  rw [hgrow.block b hlt (fun e=>hne e.symm)]
  exact hbk
 have d0:w2.cell? ⟨b,0,none⟩=some (BldP b):=by rw [Lib.cell_of_heap hb2];rfl
 have d1:w2.cell? ⟨b,1,none⟩=some v:=by rw [Lib.cell_of_heap hb2];rfl
 have f1:w2.frozen? ⟨b,1,none⟩=false:=Lib.frozen_of_heap hb2 1
 obtain ⟨ao,n',cap,rfl⟩:∃ ao n' cap,v' = .slice ao n' cap:=by
  rcases hown'.2 with ⟨hv,_⟩ | ⟨g,cap,cur,hv,_⟩
  ·exact ⟨_,_,_,hv⟩
  ·exact ⟨_,_,_,hv⟩
 go_wp2
 go_ret2
 refine ⟨rfl,?_,?_⟩
 ·exact Lib.BuilderAt.put (T:=288) (e:=5) hB hb2 (bs':=bs ++ Lib.strCells s) (by simpa [Lib.strCells_length] using hown') (by decide)
 ·exact (hb1.grown hgrow (by have:=hb1.size;omega) (fun k hk=>(hown.lt k hk).1)).setCell (p:=⟨b,1,none⟩) hB _
theorem write_list (B b:Nat) (l m:List UInt8) (w:World) (h:Lib.IsBuilder 288 5 B b (Lib.byteCells l) w) (hlen:l.length+m.length≤140737488355328) (hBw:B≤w.heap.size) :
  Calls Tryz.prog 197 #[BldP b,.string ⟨m.toArray⟩] w fun e w'=>e=.returned (.tuple #[.int .i64 (m.length:Int),.nilIface])∧(Lib.IsBuilder 288 5 B b (Lib.byteCells (l ++ m)) w'∧Below B w w'):=by
 have hl:(Lib.byteCells l).length=l.length:=by simp [Lib.byteCells]
 have hm:(⟨m.toArray⟩:ByteArray).size=m.length:=by simp [ByteArray.size]
 refine (write_calls B b _ ⟨m.toArray⟩ w h (by rw [hl,hm];exact hlen) hBw).mono ?_
 rintro e w' ⟨rfl,h1,h2⟩
 refine ⟨by rw [hm],.inr ?_,h2⟩
 have e:Lib.byteCells l ++ Lib.strCells ⟨m.toArray⟩=Lib.byteCells (l ++ m):=by simp [Lib.byteCells,Lib.strCells]
 rw [← e]
 exact h1
end
section
open Go.Lib
def padZ:Nat→Nat→List UInt8
 | 0,_=>[]
 | k+1,r=>padZ k (r / 10) ++ [UInt8.ofNat (48+r % 10)]
theorem dec_pad:∀ (k q r:Nat),0<q→r<10 ^ k→decDigits (q*10 ^ k+r)=decDigits q ++ padZ k r
 | 0,q,r,_,hr=>by
  have:r=0:=by simpa using hr
  subst this
  simp [padZ]
 | k+1,q,r,hq,hr=>by
  have hp:1≤10 ^ k:=Nat.one_le_pow _ _ (by decide)
  have hqp:1*1≤q*10 ^ k:=Nat.mul_le_mul hq hp
  rw [Nat.pow_succ] at hr ⊢
  have e:q*(10 ^ k*10)=q*10 ^ k*10:=by rw [Nat.mul_assoc]
  rw [e,decDigits,dif_neg (by omega),padZ,← List.append_assoc,← dec_pad k q (r / 10) hq (by omega)]
  rw [show (q*10 ^ k*10+r) / 10=q*10 ^ k+r / 10 by omega,show (q*10 ^ k*10+r) % 10=r % 10 by omega]
theorem padZ_zero:∀ k:Nat,padZ k 0=List.replicate k 48
 | 0=>rfl
 | k+1=>by rw [padZ,Nat.zero_div,padZ_zero k,List.replicate_succ'];rfl
theorem padZ_eq:∀ (k r:Nat),r<10 ^ (k+1)→padZ (k+1) r=List.replicate (k+1 - nDigits r) 48 ++ decDigits r
 | 0,r,hr=>by
  have h:r<10:=by simpa using hr
  rw [padZ,padZ,nDigits_small h,decDigits_one h,Nat.mod_eq_of_lt h]
  rfl
 | k+1,r,hr=>by
  by_cases h:r<10
  ·rw [padZ,nDigits_small h,decDigits_one h,Nat.mod_eq_of_lt h,Nat.div_eq_of_lt h,padZ_zero]
   rfl
  ·rw [padZ,padZ_eq k (r / 10) (by rw [Nat.pow_succ] at hr;omega),nDigits_big h]
   conv=>rhs;rw [decDigits,dif_neg h]
   rw [show k+1+1 - (nDigits (r / 10)+1)=k+1 - nDigits (r / 10) by omega,List.append_assoc]
theorem nDigits_le:∀ (m x:Nat),x<10 ^ (m+1)→nDigits x≤m+1
 | 0,x,h=>by rw [nDigits_small (by simpa using h)];exact Nat.le_refl _
 | m+1,x,h=>by
  by_cases h10:x<10
  ·rw [nDigits_small h10];omega
  ·rw [nDigits_big h10]
   have:=nDigits_le m (x / 10) (by rw [Nat.pow_succ] at h;omega)
   omega
def TT:Nat:=10000000000000000000
theorem TT_eq:TT=10 ^ 19:=by decide
def vT:List Nat→Nat
 | []=>0
 | r :: rs=>r+TT*vT rs
theorem vT_snoc (rs:List Nat) (r:Nat):vT (rs ++ [r])=vT rs+TT ^ rs.length*r:=by
 induction rs with
 | nil=>simp [vT]
 | cons x xs ih =>
  simp only [List.cons_append,vT,ih,List.length_cons,Nat.pow_succ]
  generalize vT xs=V
  generalize TT ^ xs.length=P
  grind
theorem vT_lt {rs:List Nat} (h:∀ r∈rs,r<TT):vT rs<TT ^ rs.length:=by
 induction rs with
 | nil=>simp [vT]
 | cons x xs ih =>
  have h1:=h x (by simp)
  have h2:=ih (fun r hr=>h r (by simp [hr]))
  simp only [vT,List.length_cons,Nat.pow_succ,Nat.mul_comm _ TT]
  have h3:TT*(vT xs+1)≤TT*TT ^ xs.length:=Nat.mul_le_mul_left _ h2
  rw [Nat.mul_add] at h3
  omega
theorem vT_pos {rs:List Nat} (hne:rs≠[]) (hl:rs.getLast hne≠0):0<vT rs:=by
 induction rs with
 | nil=>exact absurd rfl hne
 | cons x xs ih =>
  cases xs with
  | nil=>simp at hl;simp only [vT];omega
  | cons y ys =>
   have:=ih (by simp) (by simpa using hl)
   have h2:1*1≤TT*vT (y :: ys):=Nat.mul_le_mul (by decide) this
   simp only [vT] at h2 ⊢
   omega
theorem vT_drop (rs:List Nat) (k:Nat) (hk:k<rs.length):vT (rs.drop k)=rs[k]?.getD 0+TT*vT (rs.drop (k+1)):=by
 rw [List.drop_eq_getElem_cons hk,vT,List.getElem?_eq_getElem hk];rfl
theorem dec_step {r V:Nat} (hr:r<TT) (hV:0<V):decDigits (r+TT*V)=decDigits V ++ (List.replicate (19 - nDigits r) 48 ++ decDigits r):=by
 rw [TT_eq] at *
 rw [← padZ_eq 18 r hr,← dec_pad 19 V r hV hr,Nat.mul_comm,Nat.add_comm]
theorem chunks_few {V L j:Nat} (h:TT ^ j≤V) (h2:V<B64 ^ L):j≤2*L:=by
 rcases Nat.lt_or_ge (2*L) j with h3 | h3
 ·have h4:B64 ^ L≤TT ^ (2*L):=by
   rw [Nat.pow_mul]
   exact Nat.pow_le_pow_left (by decide) L
  have h5:TT ^ (2*L)≤TT ^ j:=Nat.pow_le_pow_right (by decide) (by omega)
  omega
 ·exact h3
theorem nDigits_chunk {r:Nat} (h:r<TT):nDigits r≤19:=nDigits_le 18 r (by rw [TT_eq] at h;exact h)
theorem nDigits_vT {rs:List Nat} (h:∀ r∈rs,r<TT) (hne:rs.length≠0):nDigits (vT rs)≤19*rs.length:=by
 have h1:=vT_lt h
 rw [TT_eq,← Nat.pow_mul] at h1
 have:=nDigits_le (19*rs.length - 1) (vT rs) (by rw [show 19*rs.length - 1+1=19*rs.length by omega];exact h1)
 omega
end
section
open Go.RowKit Go.Sort
abbrev encS (r:Nat):Value:=.string ⟨(Lib.decDigits r).toArray⟩
theorem strInfo:(Tryz.prog.info? 9).map (fun i=>(i.zero,i.size,i.bytes))=some (some (.string ⟨#[]⟩),1,16):=by kernel_rfl
theorem snoc_encS (rs:List Nat) (r:Nat):(rs ++ [r]).map encS=rs.map encS ++ [encS r]:=by simp
theorem own_same {w w':World} {base:Nat} {e:TypeId} {k:Nat} {v:Value} {n:Nat} {xs:List Value} (h:w.ownsRow base e k v n xs) (hb:∀ g,base≤g→g<w.heap.size→w'.heap[g]? = w.heap[g]?):w'.ownsRow base e k v n xs:=by
 refine ⟨h.1,?_⟩
 rcases h.2 with h0 | ⟨g,cap,cur,rfl,h1,h2,h3⟩
 ·exact .inl h0
 ·exact .inr ⟨g,cap,cur,rfl,h1,(hb g h1 (Array.getElem?_eq_some_iff.1 h2).1).trans h2,h3⟩
structure TxR (w:World) (L V:Nat) (g n:Nat) (pv:Value) (ds rs:List Nat) (W:World):Prop where
 len:ds.length=n
 hn:n≤L
 hold:HoldsL W w.heap.size 0 ds
 dig:Dig ds
 trim:Trimmed ds
 vg:val ds=g
 own:W.ownsRow (w.heap.size+1) 9 1 pv rs.length (rs.map encS)
 lt:∀ r∈rs,r<TT
 eq:vT rs+TT ^ rs.length*g=V
 last:g=0→∃ h:rs≠[],rs.getLast h≠0
 bel:Below w.heap.size w W
 sz:w.heap.size+1≤W.heap.size
theorem rep48:∀ c:Nat,Lib.repeatL ([48]:List UInt8) c=List.replicate c 48
 | 0=>rfl
 | c+1=>by rw [Lib.repeatL,rep48 c,List.replicate_succ];rfl
theorem ntext_calls (b o cp L:Nat) (xs:List Nat) (w:World) (hx:Digs w b o xs) (hb:b<w.heap.size) (dx:Dig xs) (tx:Trimmed xs) (hl:xs.length=L) (h0:0<L) (hL:L≤1073741824) (hT:Tab10 w) :
  Calls Tryz.prog 140 #[.slice (some ⟨b,o,none⟩) L cp] w (RetT w (Lib.decDigits (val xs))):=by
 subst hl
 obtain ⟨i0,hi,hz0,hz1,hz2⟩:=info_parts strInfo
 have hmk:=makeN_run xs.length (by omega)
 have hcp:=copyN_run 3 (allocZ w xs.length) w.heap.size 0 xs.length xs.length b o cp _ xs (holdsL_allocZ w xs.length) (hx.below (below_allocZ w _) hb) (by simp) (by omega)
 have e1:(List.replicate xs.length 0).drop xs.length=([]:List Nat):=by rw [List.drop_replicate,Nat.sub_self];rfl
 rw [e1,List.append_nil] at hcp
 have hS:TxR w xs.length (val xs) (val xs) xs.length (.slice none 0 0) xs [] (putL (allocZ w xs.length) 0 w.heap.size 0 xs):=
  ⟨rfl,Nat.le_refl _,holdsL_putL _ _ _ _ _ _ (holdsL_allocZ w xs.length) (by simp),dx,tx,rfl,World.ownsRow_nil _ _ _ _,fun r hr=>by simp at hr,by simp [vT],fun h=>by
   have:=val_pos_of_trimmed tx (by intro e;subst e;simp at h0);omega,(below_allocZ w _).trans (below_putL _ _ _ _ _ (Nat.le_refl _)),by rw [size_putL,size_allocZ];omega⟩
 have HS:=hid hS
 have HT:=hid hT
 obtain ⟨V,hV⟩:∃ V,val xs=V:=⟨_,rfl⟩
 have hVL:Hid (V<B64 ^ xs.length):=by show _<_;rw [← hV];exact val_lt dx
 obtain ⟨L,hLe⟩:∃ L,xs.length=L:=⟨_,rfl⟩
 rw [hV] at HS ⊢
 rw [hLe] at HS hmk hcp hL h0 hVL ⊢
 clear hx hb dx tx e1 hS hT hV
 go_enter Tryz.func140,Tryz.ntmps140
 go_wp2
 obtain ⟨W0,hW0⟩:∃ W0,putL (allocZ w L) 0 w.heap.size 0 xs=W0:=⟨_,rfl⟩
 rw [hW0] at HS ⊢
 clear hW0 hmk hcp hLe
 go_loopg [3,4] V (fun g lv pv wr=>∃ (n:Nat) (ds rs:List Nat),lv=.slice (some ⟨w.heap.size,0,none⟩) n n∧TxR w L V g n pv ds rs wr)
 case atStart=>exact ⟨L,xs,[],rfl,HS.out⟩
 case round =>
  clear HS
  obtain ⟨n,ds,rs,rfl,hR⟩:=hrel
  have HR:=hid hR
  have hn1:=hR.hn
  clear hR
  have hrs:Hid (rs.length≤2*L):=by
   show _≤_
   have h1:=HR.out.eq
   by_cases hg:gk=0
   ·obtain ⟨hne,hl⟩:=HR.out.last hg
    have h2:=List.dropLast_concat_getLast hne
    have h3:=vT_snoc rs.dropLast (rs.getLast hne)
    rw [h2] at h3
    have h4:TT ^ rs.dropLast.length*1≤TT ^ rs.dropLast.length*rs.getLast hne:=Nat.mul_le_mul_left _ (by omega)
    have h5:=chunks_few (j:=rs.dropLast.length) (V:=V) (L:=L) (by omega) hVL.out
    rw [List.length_dropLast] at h5
    have h6:rs.length≠0:=by intro e;exact hne (List.length_eq_zero_iff.1 e)
    have h7:2*L - 1<2*L:=by omega
    rcases Nat.lt_or_ge (2*L) rs.length with h8 | h8
    ·exfalso
     have h9:rs.length=2*L+1:=by omega
     have ha:TT ^ (2*L)≤V:=by
      rw [List.length_dropLast,h9,Nat.add_sub_cancel] at h4
      rw [List.length_dropLast,h9,Nat.add_sub_cancel] at h3
      omega
     have hb:B64 ^ L≤TT ^ (2*L):=by
      rw [Nat.pow_mul]
      exact Nat.pow_le_pow_left (by decide) L
     have hc:=hVL.out
     omega
    ·exact h8
   ·have h4:TT ^ rs.length*1≤TT ^ rs.length*gk:=Nat.mul_le_mul_left _ (by omega)
    exact chunks_few (j:=rs.length) (V:=V) (L:=L) (by omega) hVL.out
  by_cases hn0:0<n
  ·have hgp:Hid (0<gk):=by
    show _<_
    rw [← HR.out.vg]
    exact val_pos_of_trimmed HR.out.trim (by intro e;have:=HR.out.len;subst e;simp at this;omega)
   obtain ⟨p3,cap3,rfl⟩:=Z4.own_shape HR.out.own
   go_wp2_with fail
   refine (split_calls n TT w.heap.size 0 n ds _ (by decide) (by decide) HR.out.hold HR.out.dig (by rw [HR.out.len];omega) HR.out.len).mono ?_
   rintro e w1 ⟨es,r,q,rfl,rfl,hel,hed,hr,hev⟩
   have hHold1:=holdsL_putL wr q w.heap.size 0 ds es HR.out.hold hel
   have hB1:Below w.heap.size w (putL wr q w.heap.size 0 es):=HR.out.bel.trans (below_putL _ _ _ _ _ (Nat.le_refl _))
   have hO1:(putL wr q w.heap.size 0 es).ownsRow (w.heap.size+1) 9 1 (.slice p3 rs.length cap3) rs.length (rs.map encS):=own_same HR.out.own fun g h1 _=>heap_putL _ _ _ _ _ _ (by omega)
   have hs1:w.heap.size+1≤(putL wr q w.heap.size 0 es).heap.size:=by rw [size_putL];exact HR.out.sz
   obtain ⟨W1,hW1⟩:∃ W1,putL wr q w.heap.size 0 es=W1:=⟨_,rfl⟩
   rw [hW1] at hHold1 hB1 hO1 hs1 ⊢
   have HE:=hid (And.intro hel (And.intro hed (And.intro hr (And.intro hev (And.intro hHold1 (And.intro hB1 (And.intro hO1 hs1)))))))
   clear hel hed hr hev hHold1 hB1 hO1 hW1 hs1
   go_wp2_with fail
   refine (fmt_calls r (Nat.lt_trans HE.out.2.2.1 (by decide)) _ (HT.out.below HE.out.2.2.2.2.2.1 (Nat.le_refl _))).mono ?_
   rintro e w2 ⟨rfl,hB2⟩
   have hO2:w2.ownsRow (w.heap.size+1) 9 1 (.slice p3 rs.length cap3) rs.length (rs.map encS):=own_same HE.out.2.2.2.2.2.2.1 fun g _ h2=>hB2.block g h2
   have hs2:w.heap.size+1≤w2.heap.size:=Nat.le_trans HE.out.2.2.2.2.2.2.2 hB2.size
   have hH2:=HE.out.2.2.2.2.1.below hB2 (by have:=HE.out.2.2.2.2.2.2.2;omega)
   have hBw2:=HE.out.2.2.2.2.2.1.trans (hB2.mono HE.out.2.2.2.2.2.1.size)
   have HO2:=hid hO2
   have HF:=hid (And.intro hH2 (And.intro hBw2 hs2))
   have hrl:=hrs.out
   clear hO2 hH2 hBw2 hB2
   go_wp2_with (at_builtin;refine wpList_append_own _ rfl _ _ 159 rfl (w.heap.size+1) 9 i0 (.string ⟨#[]⟩) 1 16 Tryz.underlying159 hi hz0 hz1 hz2 rfl (by decide) _ _ _ rfl (HO2.out.alloc _) ⟨w2.heap.size,0,none⟩ 1 1 [encS r] rfl rfl ?c1 ?c2 ?c3 ?c4 ?c5 ?_)
   try (case c1 =>
    intro j u hj
    match j,hj with
    | 0,hj=>simp at hj;subst hj;first | simp | simp [Addr.add])
   try (case c2=>first | rfl | (intro u hu;simp at hu;subst hu;rfl))
   case c3=>first | (unfold maxLen;omega) | omega
   case c4=>omega
   case c5=>first | omega | (simp;omega)
   intro v' w3 hown' hgrow _
   have hB3:Below (w.heap.size+1) w2 w3:=((Below.refl _ w2).alloc hs2 _).grown hgrow (by simp;omega) (fun k hk=>(HO2.out.lt k hk).1)
   rw [← snoc_encS] at hown'
   have HO3:=hid hown'
   have HG:=hid (And.intro (HF.out.1.below hB3 (by omega)) (And.intro (HF.out.2.1.trans (hB3.mono (by omega))) (Nat.le_trans hs2 hB3.size)))
   clear hown' hgrow hB3 HF
   go_wp2_with fail
   refine (trim_callsN n w.heap.size 0 n es _ HG.out.1.digs (by rw [HE.out.1,HR.out.len];omega) (by rw [HE.out.1,HR.out.len];exact Nat.le_refl _) (by rw [HE.out.1,HR.out.len])).mono ?_
   rintro e w4 ⟨m,rfl,ht,rfl⟩
   have HTl:=hid ht
   clear ht hrl
   go_wp2
   go_roundg (val es)
   case rel =>
    have h1:=HTl.out.1
    have h2:=HE.out.1
    have h3:=HR.out.len
    refine ⟨m,es.take m,rs ++ [r],rfl,⟨by rw [List.length_take];omega,by omega,HG.out.1.take m,HE.out.2.1.take m,HTl.out.trimmed,HTl.out.val,by rw [List.length_append];exact HO3.out,fun x hx=>?_,?_,fun h=>⟨by simp,?_⟩,HG.out.2.1,HG.out.2.2⟩⟩
    ·rcases List.mem_append.1 hx with h | h
     ·exact HR.out.lt x h
     ·simp at h;subst h;exact HE.out.2.2.1
    ·have e1:=HR.out.eq
     have e2:=HE.out.2.2.2.1
     rw [HR.out.vg] at e2
     rw [vT_snoc,List.length_append,List.length_singleton,Nat.pow_succ,← e1,e2]
     generalize TT ^ rs.length=P
     generalize TT=T
     grind
    ·have e2:=HE.out.2.2.2.1
     rw [HR.out.vg,h] at e2
     have:=hgp.out
     simp
     omega
   case measure =>
    have e2:=HE.out.2.2.2.1
    rw [HR.out.vg] at e2
    have:=hgp.out
    have h2:val es*2≤val es*TT:=Nat.mul_le_mul_left _ (by decide)
    omega
  ·obtain rfl:n=0:=by omega
   have hg0:gk=0:=by
    have:=HR.out.vg
    rw [List.length_eq_zero_iff.1 HR.out.len] at this
    exact this.symm
   subst hg0
   obtain ⟨hne,hlast⟩:=HR.out.last rfl
   have hV:Hid (vT rs=V):=by have:=HR.out.eq;rwa [Nat.mul_zero,Nat.add_zero] at this
   have hlen:rs.length≠0:=fun e=>hne (List.length_eq_zero_iff.1 e)
   obtain ⟨m,hm⟩:∃ m,rs.length=m+1:=⟨rs.length - 1,by omega⟩
   have hml:m≤2147483648:=by have:=hrs.out;omega
   have hown:=HR.out.own
   rw [hm] at hown
   obtain ⟨g,cap,rfl⟩:=Z4.own_succ hown
   have hcell:∀ k:Nat,k≤m→wr.cell? ⟨g,k,none⟩=some (encS (rs[k]?.getD 0)):=fun k hk=>by
    have:=hown.cellAt k (by omega)
    rw [this,List.getElem?_map,List.getElem?_eq_getElem (by omega)]
    rfl
   have hgl:g<wr.heap.size:=(hown.lt g rfl).2
   have hpos:∀ k:Nat,k≤m→Hid (0<vT (rs.drop k)):=fun k hk=>by
    have h1:rs.drop k≠[]:=by intro e;have:=congrArg List.length e;simp at this;omega
    exact vT_pos h1 (by rw [List.getLast_drop];exact hlast)
   have hdl:∀ k:Nat,k≤m→Hid ((Lib.decDigits (vT (rs.drop k))).length≤19*(m+1)):=fun k hk=>by
    show _≤_
    rw [Lib.decDigits_length]
    have:=nDigits_vT (rs:=rs.drop k) (fun r hr=>HR.out.lt r (List.mem_of_mem_drop hr)) (by rw [List.length_drop];omega)
    rw [List.length_drop] at this
    omega
   have hch:∀ k:Nat,k≤m→rs[k]?.getD 0<TT:=fun k hk=>by
    rw [List.getElem?_eq_getElem (by omega)]
    exact HR.out.lt _ (List.getElem_mem _)
   have HC:=hid (And.intro hcell (And.intro hpos (And.intro hdl hch)))
   have HBw:=hid HR.out.bel
   have HM:=hid hm
   have ha:=Lib.fresh_isBuilder 288 5 wr
   have HA:=hid ha
   have cl:wr.cell? ⟨g,m,none⟩=some (encS (rs[m]?.getD 0)):=hcell m (Nat.le_refl _)
   obtain ⟨rl,hrl⟩:∃ r,rs[m]?.getD 0=r:=⟨_,rfl⟩
   rw [hrl] at cl
   have HRL:=hid hrl
   clear hown hcell hpos hdl hch hm ha hne hlast hlen HR hrl
   go_wp2_with fail
   have hw0:=write_list wr.heap.size wr.heap.size [] (Lib.decDigits rl) _ HA.out (by have:=HC.out.2.2.2 m (Nat.le_refl _);rw [HRL.out] at this;rw [Lib.decDigits_length];have:=nDigits_chunk this;simp;omega) (by simp)
   have hln:(⟨(Lib.decDigits rl).toArray⟩:ByteArray).size=(Lib.decDigits rl).length:=by simp [ByteArray.size]
   refine hw0.mono ?_
   rintro e w5 ⟨rfl,hb5,hB5⟩
   rw [List.nil_append] at hb5
   have hB5':Below wr.heap.size wr w5:=((Below.refl _ wr).alloc (Nat.le_refl _) _).trans hB5
   have HB5:=hid (And.intro hb5 hB5')
   clear hw0 hln hb5 hB5 hB5' cl HA
   go_wp2
   go_loopw [7] (fun iv w6=>∃ k:Nat,iv=.int .i64 ((k:Int) - 1)∧k≤m∧Lib.IsBuilder 288 5 wr.heap.size wr.heap.size (Lib.byteCells (Lib.decDigits (vT (rs.drop k)))) w6∧Below wr.heap.size wr w6) (fun iv _=>(intOf iv+1).toNat)
   case atStart =>
    refine ⟨m,rfl,Nat.le_refl _,?_,HB5.out.2⟩
    have:vT (rs.drop m)=rl:=by
     rw [vT_drop rs m (by rw [HM.out];omega),HRL.out,List.drop_of_length_le (by rw [HM.out];omega)]
     simp [vT]
    rw [this]
    exact HB5.out.1
   case round =>
    rename World=>w6
    clear HB5
    obtain ⟨k,rfl,hk,hbl,hB6⟩:=hrel
    have HB6:=hid (And.intro hbl hB6)
    clear hbl hB6
    by_cases hk0:k=0
    ·subst hk0
     rw [show (((0:Nat):Int) - 1) = -1 from rfl]
     have hst:=Tryz.Builder_String_any wr.heap.size wr.heap.size (Lib.decDigits (vT (rs.drop 0))) w6 HB6.out.1 HB6.out.2.size
     rw [List.drop_zero,hV.out] at hst
     have HST:=hid hst
     clear hst
     go_wp2_with fail
     refine HST.out.mono ?_
     rintro e w7 ⟨rfl,hB7⟩
     have HB7:=hid (HBw.out.trans ((HB6.out.2.trans hB7).mono HBw.out.size))
     clear hB7
     go_wp2
     go_ret
     exact ⟨rfl,HB7.out⟩
    ·obtain ⟨j,rfl⟩:∃ j,k=j+1:=⟨k - 1,by omega⟩
     obtain ⟨r,hr⟩:∃ r,rs[j]?.getD 0=r:=⟨_,rfl⟩
     have cj:w6.cell? ⟨g,j,none⟩=some (encS r):=by rw [HB6.out.2.cell (p:=⟨g,j,none⟩) hgl,HC.out.1 j (by omega),hr]
     have hrT:r<TT:=by rw [← hr];exact HC.out.2.2.2 j (by omega)
     have hnd:=nDigits_chunk hrT
     have hln:(⟨(Lib.decDigits r).toArray⟩:ByteArray).size=Lib.nDigits r:=by rw [← Lib.decDigits_length];simp [ByteArray.size]
     obtain ⟨nd,hnde⟩:∃ nd,Lib.nDigits r=nd:=⟨_,rfl⟩
     rw [hnde] at hnd hln
     have hlen1:=(HC.out.2.2.1 (j+1) hk).out
     have hstep:Hid (Lib.decDigits (vT (rs.drop j))=Lib.decDigits (vT (rs.drop (j+1))) ++ (List.replicate (19 - nd) 48 ++ Lib.decDigits r)):=by
      show _=_
      rw [vT_drop rs j (by rw [HM.out];omega),hr,dec_step hrT (HC.out.2.1 (j+1) hk).out,hnde]
     have hdr:(Lib.decDigits r).length=nd:=by rw [Lib.decDigits_length,hnde]
     have hrep:=Tryz.strings_Repeat ⟨#[48]⟩ (19 - nd) w6 (by omega) (by simp [ByteArray.size];omega)
     rw [show (((19 - nd:Nat):Int))=19 - (nd:Int) from by omega] at hrep
     have HREP:=hid hrep
     have HDR:=hid hdr
     have HLN1:=hid hlen1
     have HRJ:=hid hr
     obtain ⟨D,hD⟩:∃ D,Lib.decDigits (vT (rs.drop (j+1)))=D:=⟨_,rfl⟩
     rw [hD] at HB6 hstep HLN1
     clear hrep hdr hlen1 hr hnde hrT hk0 hD
     go_wp2_with fail
     refine HREP.out.mono ?_
     rintro e w7 ⟨rfl,hB7⟩
     rw [rep48]
     have hbl7:Lib.IsBuilder 288 5 wr.heap.size wr.heap.size (Lib.byteCells D) w7:=by
      have hlt:wr.heap.size<w6.heap.size:=by rcases HB6.out.1 with h | h <;> exact h.lt
      have ho:∀ {p:Value},Lib.BuilderAt 288 5 wr.heap.size wr.heap.size p (Lib.byteCells D) w6→Lib.BuilderAt 288 5 wr.heap.size wr.heap.size p (Lib.byteCells D) w7:=fun h=>by
       obtain ⟨h1,v,h2,h3,h4⟩:=h
       exact ⟨h1,v,(hB7.block _ hlt).trans h2,own_same h3 fun g _ hg=>hB7.block g hg,h4⟩
      exact HB6.out.1.imp ho ho
     have HB7:=hid (And.intro hbl7 (HB6.out.2.trans (hB7.mono HB6.out.2.size)))
     clear hbl7 hB7
     go_wp2_with fail
     refine (write_list wr.heap.size wr.heap.size D (List.replicate (19 - nd) 48) _ HB7.out.1 (by have:=HLN1.out;rw [List.length_replicate];omega) HB7.out.2.size).mono ?_
     rintro e w8 ⟨rfl,hbl8,hB8⟩
     have HB8:=hid (And.intro hbl8 (HB7.out.2.trans hB8))
     have cj8:w8.cell? ⟨g,j,none⟩=some (encS r):=by rw [HB8.out.2.cell (p:=⟨g,j,none⟩) hgl,HC.out.1 j (by omega),HRJ.out]
     clear hbl8 hB8 cj
     go_wp2_with fail
     refine (write_list wr.heap.size wr.heap.size (D ++ List.replicate (19 - nd) 48) (Lib.decDigits r) _ HB8.out.1 (by have:=HLN1.out;rw [List.length_append,List.length_replicate,HDR.out];omega) HB8.out.2.size).mono ?_
     rintro e w9 ⟨rfl,hbl9,hB9⟩
     have HB9:=hid (And.intro hbl9 (HB8.out.2.trans hB9))
     clear hbl9 hB9 cj8
     go_wp2
     go_roundw
     case rel=>exact ⟨j,by go_num,by omega,by rw [hstep.out,← List.append_assoc];exact HB9.out.1,HB9.out.2⟩
     case measure=>simp [intOf]
end
section
open Go.RowKit Go.Sort
theorem mtext_word (x:Nat) (hx:x<B64) (w:World) (hT:Tab10 w):Calls Tryz.prog 87 #[.agg #[.int .u64 (x:Int),.slice none 0 0]] w (RetT w (Lib.decDigits x)):=by
 have H:=hid (fun (W:World) (h:Tab10 W)=>fmt_calls x hx W h)
 have HT:=hid hT
 clear hx hT
 go_enter Tryz.func87,Tryz.ntmps87
 go_wp2_with fail
 obtain ⟨W0,hW0⟩:∃ W0,w.alloc (.cells #[.int .u64 (x:Int),.slice none 0 0] 28)=W0:=⟨_,rfl⟩
 have hb0:Below w.heap.size w W0:=hW0 ▸ (Below.refl _ _).alloc (Nat.le_refl _) _
 rw [hW0]
 refine (H.out _ (HT.out.below hb0 (Nat.le_refl _))).mono ?_
 rintro e w' ⟨rfl,hb⟩
 go_wp2
 go_ret
 exact ⟨rfl,hb0.trans (hb.mono hb0.size)⟩
theorem mtext_long (b o cp:Nat) (xs:List Nat) (w:World) (hx:Digs w b o xs) (hb:b<w.heap.size) (dx:Dig xs) (tx:Trimmed xs) (h0:0<xs.length) (hL:xs.length≤1073741824) (hT:Tab10 w):Calls Tryz.prog 87 #[.agg #[.int .u64 0,.slice (some ⟨b,o,none⟩) xs.length cp]] w (RetT w (Lib.decDigits (val xs))):=by
 have H:=hid (fun (W:World) (h:Digs W b o xs) (h1:b<W.heap.size) (h2:Tab10 W)=>ntext_calls b o cp xs.length xs W h h1 dx tx rfl h0 hL h2)
 have HT:=hid hT
 have HX:=hid hx
 have hn:=someSlice_run
 obtain ⟨D,hD⟩:∃ D,Lib.decDigits (val xs)=D:=⟨_,rfl⟩
 rw [hD] at H ⊢
 clear hT hx dx tx hD
 go_enter Tryz.func87,Tryz.ntmps87
 go_wp2_with fail
 obtain ⟨W0,hW0⟩:∃ W0,w.alloc (.cells #[.int .u64 0,.slice (some ⟨b,o,none⟩) xs.length cp] 28)=W0:=⟨_,rfl⟩
 have hb0:Below w.heap.size w W0:=hW0 ▸ (Below.refl _ _).alloc (Nat.le_refl _) _
 rw [hW0]
 refine (H.out _ (HX.out.below hb0 hb) (Nat.lt_of_lt_of_le hb hb0.size) (HT.out.below hb0 (Nat.le_refl _))).mono ?_
 rintro e w' ⟨rfl,hb⟩
 go_wp2
 go_ret
 exact ⟨rfl,hb0.trans (hb.mono hb0.size)⟩
theorem mtext_calls (c d:Value) (n k:Nat) (w:World) (h:IsMag w c d n) (hk:k≤1073741824) (hn:n<B64 ^ k) (hT:Tab10 w):Calls Tryz.prog 87 #[.agg #[c,d]] w (RetT w (Lib.decDigits n)):=by
 rcases h with ⟨h0,rfl,rfl⟩ | ⟨b,o,m,xs,rfl,rfl,h3,h4,h5,h6,h7,h8,h9⟩
 ·exact mtext_word n h0 w hT
 ·rw [← h8]
  exact mtext_long b o m xs w h9 h3 h6 h7 (by omega) (Nat.le_trans (len_le h7 (by rw [h8];exact hn)) hk) hT
structure Q1T (w W:World) (t:Bool) (c d e f:Value) (n m:Nat):Prop where
 b1:C5 W w.heap.size (.bool t) c d e f
 i1:IsMag W c d n
 j1:IsMag W e f m
 tab:Tab10 W
 bel:Below w.heap.size w W
 sz:w.heap.size+1≤W.heap.size
theorem Q1T.next {w W W':World} {t:Bool} {c d e f:Value} {n m:Nat} (h:Q1T w W t c d e f n m) (hb:Below W.heap.size W W'):Q1T w W' t c d e f n m where
 b1:=h.b1.below hb (by have:=h.sz;omega)
 i1:=h.i1.below hb
 j1:=h.j1.below hb
 tab:=h.tab.below hb (Nat.le_refl _)
 bel:=h.bel.trans (hb.mono (by have:=h.sz;omega))
 sz:=Nat.le_trans h.sz hb.size
theorem Q1T.start {w:World} (t:Bool) (c d e f:Value) (n m:Nat) (T:TypeId) (i1:IsMag w c d n) (j1:IsMag w e f m) (hT:Tab10 w):Q1T w (w.alloc (.cells #[.bool t,c,d,e,f] T)) t c d e f n m:=
 have hb:Below w.heap.size w (w.alloc (.cells #[.bool t,c,d,e,f] T)):=(Below.refl _ _).alloc (Nat.le_refl _) _
 ⟨by refine ⟨?_,?_,?_,?_,?_⟩ <;> simp [World.cell?_alloc_at],i1.below hb,j1.below hb,hT.below hb (Nat.le_refl _),hb,by simp [World.size_alloc]⟩
end
section
open Go.RowKit Go.Sort
def digB (x:UInt8):Bool:=decide (48≤x.toNat∧x.toNat≤57)
theorem isDigits_calls (l:List UInt8) (w:World) (hs:l.length≤1099511627776):Calls Tryz.prog 118 #[.string ⟨l.toArray⟩] w fun e w'=>e=.returned (.bool (l != [] && l.all digB))∧w=w':=by
 obtain ⟨t,ht⟩:∃ t,(l != [] && l.all digB)=t:=⟨_,rfl⟩
 rw [ht]
 have HT:=hid ht
 clear ht
 go_enter Tryz.func118,Tryz.ntmps118
 go_wp2
 go_loop [6] (fun nv=>∃ n:Nat,nv=.int .i64 n∧n≤l.length∧(l.take n).all digB=true) (fun nv=>l.length - (intOf nv).toNat)
 case atStart=>exact ⟨0,rfl,Nat.zero_le _,rfl⟩
 case round =>
  obtain ⟨n,rfl,hn,hz⟩:=hrel
  have HZ:=hid hz
  clear hz
  by_cases h0:n=l.length
  ·have h1:Hid ((l != [])=t):=by
    show _=_
    have:=HZ.out
    rw [h0,List.take_length] at this
    rw [← HT.out,this,Bool.and_true]
   subst h0
   go_wp2
   go_ret
   refine ⟨?_,rfl⟩
   rw [← h1.out]
   show Ending.returned (.bool !l.isEmpty)=_
   cases l <;> rfl
  ·have hlt:n<l.length:=by omega
   obtain ⟨x,hx⟩:∃ x,l[n]=x:=⟨_,rfl⟩
   have hi:(⟨l.toArray⟩:ByteArray)[n]'(by simpa [ByteArray.size] using hlt)=x:=by rw [← hx];rfl
   have hi2:((⟨l.toArray⟩:ByteArray)[n]'(by simpa [ByteArray.size] using hlt)).toNat=x.toNat:=by rw [hi]
   have hm:x∈l:=hx ▸ List.getElem_mem hlt
   have hno:Hid (digB x=false→t=false):=by
    intro h
    have:l.all digB=false:=by rw [List.all_eq_false];exact ⟨x,hm,by simp [h]⟩
    rw [← HT.out,this,Bool.and_false]
   have hyes:Hid (digB x=true→(l.take (n+1)).all digB=true):=by
    intro h
    rw [List.take_succ_eq_append_getElem hlt,List.all_append,HZ.out,hx]
    simp [h]
   clear hi hm hx
   rcases Nat.lt_or_ge x.toNat 48 with h1 | h1
   ·have hd:digB x=false:=by unfold digB;simp;omega
    have HE:=hid (hno.out hd)
    clear hno hyes hd
    go_wp2
    go_ret
    rw [HE.out];exact ⟨rfl,rfl⟩
   ·rcases Nat.lt_or_ge 57 x.toNat with h2 | h2
    ·have hd:digB x=false:=by unfold digB;simp;omega
     have HE:=hid (hno.out hd)
     clear hno hyes hd
     go_wp2
     go_ret
     rw [HE.out];exact ⟨rfl,rfl⟩
    ·have hd:digB x=true:=by unfold digB;simp;omega
     have HY:=hid (hyes.out hd)
     clear hno hyes hd
     go_wp2
     go_round
     case rel=>exact ⟨n+1,by go_num,by omega,HY.out⟩
     case measure=>simp [intOf];omega
theorem intB_eq (x:UInt8) (r:List UInt8):(x == 48 && r.isEmpty || (((x.toNat:Nat):Int) != 48))=(true && ((x :: r == [48]) || ((x :: r).head? != some 48))):=by
 by_cases h:x=48
 ·subst h
  cases r <;> simp
 ·have h1:x.toNat≠48:=fun e=>h (UInt8.toNat_inj.1 e)
  have h2:(((x.toNat:Nat):Int) != 48)=true:=by simp;omega
  rw [h2]
  simp [h]
def intB (l:List UInt8):Bool:=(l != [] && l.all digB) && (l == [48] || l.head? != some 48)
theorem isInteger_calls (l:List UInt8) (w:World) (hs:l.length≤1099511627776):Calls Tryz.prog 117 #[.string ⟨l.toArray⟩] w fun e w'=>e=.returned (.bool (intB l))∧w=w':=by
 have hc:=isDigits_calls l w hs
 obtain ⟨t,ht⟩:∃ t,(l != [] && l.all digB)=t:=⟨_,rfl⟩
 unfold intB
 rw [ht] at hc ⊢
 cases t
 ·go_enter Tryz.func117,Tryz.ntmps117
  go_wp2_with (go_at_call 118;refine hc.mono ?_;rintro e w' ⟨rfl,rfl⟩)
  go_ret
  exact ⟨rfl,rfl⟩
 ·obtain ⟨x,r,rfl⟩:∃ x r,l=x :: r:=by cases l with | nil=>simp at ht | cons x r=>exact ⟨x,r,rfl⟩
  clear ht
  go_enter Tryz.func117,Tryz.ntmps117
  go_wp2_with (go_at_call 118;refine hc.mono ?_;rintro e w' ⟨rfl,rfl⟩)
  ·go_ret
   refine ⟨?_,rfl⟩
   show Ending.returned (.bool (x == 48 && r.isEmpty || (((x.toNat:Nat):Int) != 48)))=_
   rw [intB_eq]
  ·obtain ⟨rfl,rfl⟩:=h
   go_ret
   exact ⟨rfl,rfl⟩
  ·exfalso
   rename_i h1
   exact h ⟨Classical.byContradiction fun h2=>h1 (.inl h2),Classical.byContradiction fun h2=>h1 (.inr h2)⟩
end
section
open Go.RowKit Go.Sort
theorem isMag_lit (W:World) (n:Nat) (h:n<B64):IsMag W (.int .u64 (n:Int)) (.slice none 0 0) n:=.inl ⟨h,rfl,rfl⟩
theorem pow10_calls (n k:Nat) (w:World) (hn:10 ^ n<B64 ^ k) (hk:k≤17179869184):Calls Tryz.prog 120 #[.int .i64 (n:Int)] w (RetM w (10 ^ n)):=by
 have HN:=hid (fun j (hj:j≤n)=>Nat.lt_of_le_of_lt (Nat.pow_le_pow_right (by decide) hj) hn)
 have hn20:n<20*k:=by
  have h1:B64 ^ k≤(10 ^ 20) ^ k:=Nat.pow_le_pow_left (by unfold B64;decide) k
  rw [← Nat.pow_mul] at h1
  exact (Nat.pow_lt_pow_iff_right (by decide:1<10)).1 (Nat.lt_of_lt_of_le hn h1)
 have hk1:1≤k:=by
  rcases k with _ | k
  ·have:0<10 ^ n:=Nat.pow_pos (by decide)
   simp at hn
  ·omega
 clear hn
 go_enter Tryz.func120,Tryz.ntmps120
 go_wp2_with fail
 have hS0:=hid ((((St.start w).alloc' (w.heap.size) (by simp) 28 [.int .u64 0,.slice none 0 0]).alloc' (w.heap.size+1) (by simp) 28 [.int .u64 1,.slice none 0 0]).alloc' (w.heap.size+1+1) (by simp) 28 [.int .u64 10,.slice none 0 0])
 obtain ⟨W0,hW0⟩:=nameW hS0
 rw [hW0] at hS0 ⊢
 clear hW0
 go_wp2_with fail
 go_loopw [8] (fun iv wr=>∃ (j:Nat) (x1:Int) (p1:Option Addr) (l1 q1:Nat),iv=.int .i64 (j:Int)∧j≤n∧St w [⟨w.heap.size+1+1,28,[.int .u64 10,.slice none 0 0]⟩,⟨w.heap.size+1,28,[.int .u64 x1,.slice p1 l1 q1]⟩,⟨w.heap.size,28,[.int .u64 0,.slice none 0 0]⟩] [.m (.int .u64 x1) (.slice p1 l1 q1) (10 ^ j)] wr) (fun iv _=>n - (intOf iv).toNat)
 case atStart=>exact ⟨0,1,none,0,0,rfl,Nat.zero_le _,hS0.out.fact (.m (.int .u64 1) (.slice none 0 0) (10 ^ 0)) (isMag_lit _ 1 (by decide))⟩
 case round =>
  clear hS0
  obtain ⟨j,x1,p1,l1,q1,rfl,hj,hSt⟩:=hrel
  have HS:=hid hSt
  clear hSt
  by_cases hlt:j<n
  ·have hcj:(j:Int)<(n:Int):=by omega
   obtain ⟨⟨cP0,cP1⟩,fP0,fP1⟩:=HS.out.f2 1 (w.heap.size+1) 28 (.int .u64 x1) (.slice p1 l1 q1) rfl
   obtain ⟨⟨cT0,cT1⟩,fT0,fT1⟩:=HS.out.f2 0 (w.heap.size+1+1) 28 (.int .u64 10) (.slice none 0 0) rfl
   go_wp2_with fail
   clear cP0 cP1 fP0 fP1 cT0 cT1 fT0 fT1
   refine (mtimes_calls (10 ^ j) 10 k _ _ _ _ _ (HS.out.get (f:=.m (.int .u64 x1) (.slice p1 l1 q1) (10 ^ j)) 0 rfl) (isMag_lit _ 10 (by decide)) (by omega) (HN.out _ hj) (Nat.lt_of_lt_of_le (by decide:10<B64 ^ 1) (Nat.pow_le_pow_right (by decide) hk1))).mono ?_
   rintro e w2 ⟨c2,d2,rfl,hm2,hB⟩
   have hS1:=hid (HS.out.call hB)
   clear hB
   clear HS
   obtain ⟨x2,p2,l2,q2,rfl,rfl⟩:=hm2.shape
   rw [← Nat.pow_succ] at hm2
   have hS2:=hid (hS1.out.fact (.m (.int .u64 x2) (.slice p2 l2 q2) (10 ^ (j+1))) hm2)
   clear hS1 hm2
   obtain ⟨⟨cP0,cP1⟩,fP0,fP1⟩:=hS2.out.f2 1 (w.heap.size+1) 28 (.int .u64 x1) (.slice p1 l1 q1) rfl
   go_wp2_with fail
   clear cP0 cP1 fP0 fP1
   have hJ:=hid ((((hS2.out).store (b:=⟨w.heap.size+1,28,[.int .u64 x1,.slice p1 l1 q1]⟩) 1 0 (.int .u64 x2) rfl rfl).store (b:=⟨w.heap.size+1,28,[.int .u64 x2,.slice p1 l1 q1]⟩) 1 1 (.slice p2 l2 q2) rfl rfl).as [⟨w.heap.size+1+1,28,[.int .u64 10,.slice none 0 0]⟩,⟨w.heap.size+1,28,[.int .u64 x2,.slice p2 l2 q2]⟩,⟨w.heap.size,28,[.int .u64 0,.slice none 0 0]⟩] rfl)
   go_roundw
   case rel=>exact ⟨j+1,x2,p2,l2,q2,by go_num,by omega,⟨hJ.out.bel,hJ.out.box,(hJ.out.get (f:=.m (.int .u64 x2) (.slice p2 l2 q2) (10 ^ (j+1))) 0 rfl),trivial⟩⟩
   case measure=>simp [intOf];omega
  ·obtain rfl:j=n:=by omega
   have hcj:¬ ((j:Int)<(j:Int)):=by omega
   clear hj
   obtain ⟨⟨cP0,cP1⟩,fP0,fP1⟩:=HS.out.f2 1 (w.heap.size+1) 28 (.int .u64 x1) (.slice p1 l1 q1) rfl
   obtain ⟨⟨cR0,cR1⟩,fR0,fR1⟩:=HS.out.f2 2 w.heap.size 28 (.int .u64 0) (.slice none 0 0) rfl
   have hS1:=hid ((((HS.out).store (b:=⟨w.heap.size,28,[.int .u64 0,.slice none 0 0]⟩) 2 0 (.int .u64 x1) rfl rfl).store (b:=⟨w.heap.size,28,[.int .u64 x1,.slice none 0 0]⟩) 2 1 (.slice p1 l1 q1) rfl rfl).as [⟨w.heap.size+1+1,28,[.int .u64 10,.slice none 0 0]⟩,⟨w.heap.size+1,28,[.int .u64 x1,.slice p1 l1 q1]⟩,⟨w.heap.size,28,[.int .u64 x1,.slice p1 l1 q1]⟩] rfl)
   go_wp2_with fail
   clear cP0 cP1 fP0 fP1 cR0 cR1 fR0 fR1
   obtain ⟨⟨zR0,zR1⟩,-⟩:=hS1.out.f2 2 w.heap.size 28 (.int .u64 x1) (.slice p1 l1 q1) rfl
   exact bodyPost_ret (v:=.agg #[.int .u64 x1,.slice p1 l1 q1]) (by simp [results,Tryz.results120,go_sem,zR0,zR1]) rfl ⟨_,_,rfl,(hS1.out.get (f:=.m (.int .u64 x1) (.slice p1 l1 q1) (10 ^ j)) 0 rfl),hS1.out.bel⟩
end
end Go.Proofs.YtmijlcldmefggaaGreatDoor
